/- The law FnPlacesFoundOfAll, whatever the arguments: its cases joined. No condition. -/
import Derived.Test.YtppdjjdejggjaaaAnCa
import Derived.Test.YtppdjjdejggjaaaAnCb
import Derived.Test.YtppdjjdejggjaaaAnCc
import Derived.Test.YtppdjjdejggjaaaAnCd
import Derived.Test.YtppdjjdejggjaaaAnCe
import Derived.Test.YtppdjjdejggjaaaAnCf
import Derived.Test.YtppdjjdejggjaaaAnCg
namespace Go.Proofs.Ytppdjjdejggjaaa
open Go.ChangeShapes Go.WideShapes Go.ChangeAt Go.RowKit

theorem walk_PlacesFoundOfAll (s n s2 k r : Int) (w : World) :
    Calls Try.prog 4 #[.int .i64 s, .int .i64 n, .int .i64 s2, .int .i64 k, .int .i64 r] w fun e w' => e = .returned (.bool true) ∧ Below w.heap.size w w' := by
  rcases Bool.eq_false_or_eq_true (tsB s n) with ht | ht
  · rcases Bool.eq_false_or_eq_true (poB s n) with hp | hp
    · rcases Int.lt_or_le (cuV s n) 100000 with hc | hc
      · exact places_pol_lo s n s2 k r w ht hp hc
      · rcases Int.lt_or_le 100000 (cuV s n) with hd | hd
        · exact places_pol_hi s n s2 k r w ht hp hd
        · exact places_pol_at s n s2 k r w ht hp hc hd
    · rcases Bool.eq_false_or_eq_true (wdB s n) with hw | hw
      · rcases Int.lt_or_le (wdV s n) (-100000) with hv | hv
        · rcases Int.lt_or_le (cuV s n) 100000 with hc | hc
          · exact places_far_lo s n s2 k r w ht hp hw hc hv
          · exact places_far_hi s n s2 k r w ht hp hw hc hv
        · rcases Int.lt_or_le (cuV s n) 100000 with hc | hc
          · exact places_wide_lo s n s2 k r w ht hp hw hc hv
          · exact places_wide_hi s n s2 k r w ht hp hw hc hv
      · by_cases hr : rtV (stV s n) * rtV (stV s n) = stV s n
        · rcases Int.lt_or_le (cuV s n) 100000 with hc | hc
          · exact places_root_f s n s2 k r w ht hp hw hc hr
          · exact places_root_g s n s2 k r w ht hp hw hc hr
        · rcases Int.lt_or_le (cuV s n) 100000 with hc | hc
          · exact places_none_f s n s2 k r w ht hp hw hc hr
          · exact places_none_g s n s2 k r w ht hp hw hc hr
  · exact places_no s n s2 k r w ht
end Go.Proofs.Ytppdjjdejggjaaa
