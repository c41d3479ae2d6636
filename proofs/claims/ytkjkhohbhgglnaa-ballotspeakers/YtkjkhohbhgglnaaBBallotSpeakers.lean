import Derived.Test.YtkjkhohbhgglnaaBQw
import Derived.Test.YtkjkhohbhgglnaaBSpeakersRow
namespace Go.Proofs.Ytkjkhohbhgglnaa
open Go.RowKit

theorem ballotSpeakersProof : Rows.BallotSpeakersSaid := ballotSpeakers_of fun c sb off ao len cap ws a b w hin hn hn47 hF hao hb ha hb' => speakers_walk c hin sb off ao len cap ws a b ha hb' w hn hn47 hF hao hb
end Go.Proofs.Ytkjkhohbhgglnaa
