import Derived.Test.YteafdpmblbbpnaaLS50
import Derived.Test.YteafdpmblbbpnaaLS51
namespace Go.Proofs.Yteafdpmblbbpnaa
open Go.RowKit

theorem ledgerKeepsProof : Rows.LedgerKeepsUptoSaid := ledgerKeeps_upto fun _ _ _ len0 cap0 _ _ _ _ len1 cap1 _ hn0 hle0 hA0 hao0 hb0 hO hle1 hao1 hb1 => (keepsW len0 cap0 hn0 hA0 hao0 hb0 hle0 len1 cap1 hO hle1 hao1 hb1).mono (fun _ _ h => ⟨h.1, h.2.out⟩)
end Go.Proofs.Yteafdpmblbbpnaa
