/- THE WALK of the law 'TimesSpans': every PrintSpan and ParseSpan is the document's. -/
import Derived.Test.YthbphanlmhghdaaDoorWs
namespace Go.Proofs.YthbphanlmhghdaaDoor
open Go.RowKit

/-- One call more: what stays. -/
theorem two_stay {w a b : World} (h : Hid (Below w.heap.size w a)) (k : Below a.heap.size a b) : Below w.heap.size w b := h.out.trans (k.mono h.out.size)

set_option maxRecDepth 100000 in
set_option maxHeartbeats 1000000 in
theorem spans_any (d : Int) (s : ByteArray) (w : World) (hE : Env w) (hs : s.size ≤ 9223372036854775000) :
    Calls Tryd.prog 3 #[.int .i64 d, .string s] w fun e w' => e = .returned (.bool true) ∧ Below w.heap.size w w' := by
  have HE := Lib.hid hE
  have HS := Lib.hid hs
  clear hE hs
  go_enter Tryd.func3, Tryd.ntmps3
  go_wp2_with (first
    | (go_at_call 12; refine (print_any d _ HE.out).mono ?_; rintro e w1 ⟨rfl, hb1⟩; have HB1 := Lib.hid hb1; clear hb1)
    | (go_at_call 13; refine (refPrint_any d _).mono ?_; rintro e w2 ⟨rfl, hb2⟩; have HB2 := Lib.hid (two_stay HB1 hb2); clear hb2 HB1)
    | (go_at_call 14; refine (parse_any s _ (HE.out.on HB2.out) HS.out).mono ?_; rintro e w3 ⟨rfl, hb3⟩; have HB3 := Lib.hid (two_stay HB2 hb3); clear hb3 HB2)
    | (go_at_call 15; refine (refParse_any s _ HS.out).mono ?_; rintro e w4 ⟨rfl, hb4⟩; have HB4 := Lib.hid (two_stay HB3 hb4); clear hb4 HB3))
  refine bodyPost_ret (v := .bool true) (by simp [results, Tryd.results3, go_sem]) rfl ⟨rfl, HB4.out⟩
end Go.Proofs.YthbphanlmhghdaaDoor
