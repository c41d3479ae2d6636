import Derived.Test.YtpdjnbpjgpdnkaaGreatDoorV12
namespace Go.Proofs.YtpdjnbpjgpdnkaaGreatDoor
open Go.RowKit

section
variable {lim : Nat} {W : World} {q ba bs ca cc : Nat} {g : Pg} {p : Pv} {k k' : Kn} {o : Nat} {a : Int} {xb : Nat} {w w' : World}
end
theorem wp_append1 {P : Program} {o : Oper} {a : Act} {w w' : World} {K : Act → World → Prop} {Q : Exit → Act → World → Prop} (s x : Operand) (t : TypeId) (ho : o.op = .call { callee := .builtin .append, args := #[s, x], argTypes := #[t, t] }) {v v' : Value} {ad : Addr} {m c : Nat} (hs : a.eval s = v) (hx : a.eval x = .slice (some ad) m c)
  (hr : (Builtin.append_ #[t, t] o.type #[v, .slice (some ad) m c]).run P w = .ok v' w') (hK : K (a.put o.dst v') w') : Oper.wp P o a w K Q := by
 unfold Oper.wp execOp
 simp only [ho, resolve, invoke, builtin, Sem.run_bind, Sem.run_pure, Result.andThen_ok, List.map_toArray, List.map_cons, List.map_nil, hs, hx, hr]
 exact hK
end Go.Proofs.YtpdjnbpjgpdnkaaGreatDoor
namespace Go.Proofs.YtpdjnbpjgpdnkaaGreatDoor
open Go.RowKit

section
variable {W : World} {rb q : Nat} {g : Pg} {p : Pv} {ja jb : Nat} {va vb : Value} {w w' : World} {o : Obj}
end
end Go.Proofs.YtpdjnbpjgpdnkaaGreatDoor
