/- THE WALKS of scale.Bounds. -/
import Derived.Test.YteoekkhgpdhnhaaDoorWe
namespace Go.Proofs.YteoekkhgpdhnhaaDoor.Sc
open Go.RowKit
theorem sbounds_no {l h d i : Int} (r : rightB l h d = false) (w : World) : Calls Tryd.prog 19 #[.agg #[.int .i64 l, .int .i64 h, .int .i64 d], .int .i64 i] w fun e w' => e = .returned (.tuple #[.int .i64 0, .int .i64 0, .int .i64 80]) ∧ Below w.heap.size w w' := by
  have HN := Lib.hid (show Below w.heap.size w (w.alloc (.cells #[.int .i64 l, .int .i64 h, .int .i64 d] 50)) from (Below.refl _ _).alloc (Nat.le_refl _) _)
  have HR := Lib.hid r
  clear r
  go_enter Tryd.func19, Tryd.ntmps19
  go_wp2_with (go_at_call 45; refine (scount_no HR.out _).mono ?_; rintro e w1 ⟨rfl, hb1⟩; have HB1 := Lib.hid hb1; obtain ⟨hc1, hf1⟩ := bcell hb1; have hz1 := hb1.size; simp at hz1; clear hb1)
  go_ret3
  exact ⟨rfl, HN.out.trans (HB1.out.mono (by simp))⟩
theorem sbounds_out {l h d i : Int} (r : rightB l h d = true) (hi : i < 0 ∨ (cnt l h d : Int) ≤ i) (w : World) : Calls Tryd.prog 19 #[.agg #[.int .i64 l, .int .i64 h, .int .i64 d], .int .i64 i] w fun e w' => e = .returned (.tuple #[.int .i64 0, .int .i64 0, .int .i64 2]) ∧ Below w.heap.size w w' := by
  have HN := Lib.hid (show Below w.heap.size w (w.alloc (.cells #[.int .i64 l, .int .i64 h, .int .i64 d] 50)) from (Below.refl _ _).alloc (Nat.le_refl _) _)
  have HR := Lib.hid r
  clear r
  rcases Int.lt_or_le i 0 with h0 | h0
  · clear hi
    go_enter Tryd.func19, Tryd.ntmps19
    go_wp2_with (go_at_call 45; refine (scount_yes HR.out _).mono ?_; rintro e w1 ⟨rfl, hb1⟩; have HB1 := Lib.hid hb1; obtain ⟨hc1, hf1⟩ := bcell hb1; have hz1 := hb1.size; simp at hz1; clear hb1)
    go_ret3
    exact ⟨rfl, HN.out.trans (HB1.out.mono (by simp))⟩
  · have h1 : (cnt l h d : Int) ≤ i := by omega
    clear hi
    go_enter Tryd.func19, Tryd.ntmps19
    go_wp2_with (go_at_call 45; refine (scount_yes HR.out _).mono ?_; rintro e w1 ⟨rfl, hb1⟩; have HB1 := Lib.hid hb1; obtain ⟨hc1, hf1⟩ := bcell hb1; have hz1 := hb1.size; simp at hz1; clear hb1)
    go_ret3
    exact ⟨rfl, HN.out.trans (HB1.out.mono (by simp))⟩
theorem low_in {l h d : Int} (r : rightB l h d = true) {i : Nat} (hi : i < cnt l h d) : SC.low (hOf d) (eOf l) i ≤ 2305843009213693952 ∧ (i : Int) ≤ 67584 := by
  obtain ⟨a1, a2, a3, a4, a5, a6⟩ := right_of r
  have hs := (cnt_val r).2
  unfold cnt at hi
  have h1 := SC.low_mono (hOf d) (eOf l) (i := i) (j := SC.idx (hOf d) (eOf l) h.toNat) (by omega)
  have h2 := (SC.idx_within (hOf d) (eOf l) h.toNat (by omega)).1
  omega
theorem rbounds_i {l d : Int} {i : Nat} (a1 : 1 ≤ l) (a2 : l ≤ 1099511627776) (hs : SC.low (hOf d) (eOf l) i ≤ 2305843009213693952 ∧ (i : Int) ≤ 67584) (w : World) : Calls Tryd.prog 46 #[.agg #[.int .i64 (eOf l), .int .i64 (hOf d)], .int .i64 i] w fun r w' => r = .returned (.tuple #[.int .i64 (SC.low (hOf d) (eOf l) i), .int .i64 ((SC.next (hOf d) (eOf l) i : Int) - 1)]) ∧ Below w.heap.size w w' :=
  rbounds_any (hOf d) (eOf l) i w (eOf_val a1 a2).2 (hOf_in d).1 (hOf_in d).2 hs.2 hs.1
theorem sbounds_yes {l h d : Int} (r : rightB l h d = true) {i : Nat} (hi : i < cnt l h d) (w : World) : Calls Tryd.prog 19 #[.agg #[.int .i64 l, .int .i64 h, .int .i64 d], .int .i64 i] w fun e w' => e = .returned (.tuple #[.int .i64 (SC.low (hOf d) (eOf l) i), .int .i64 ((SC.next (hOf d) (eOf l) i : Int) - 1), .int .i64 0]) ∧ Below w.heap.size w w' := by
  obtain ⟨a1, a2, a3, a4, a5, a6⟩ := right_of r
  have HN := Lib.hid (show Below w.heap.size w (w.alloc (.cells #[.int .i64 l, .int .i64 h, .int .i64 d] 50)) from (Below.refl _ _).alloc (Nat.le_refl _) _)
  have HI := Lib.hid (low_in r hi)
  have HR := Lib.hid r
  clear r
  have hi1 : (i : Int) < (cnt l h d : Int) := by omega
  have hi2 : decide (cnt l h d ≤ i) = false := by simpa using hi
  clear hi
  go_enter Tryd.func19, Tryd.ntmps19
  go_wp2_with (first
    | (go_at_call 45; refine (scount_yes HR.out _).mono ?_; rintro e w1 ⟨rfl, hb1⟩; have HB1 := Lib.hid hb1; obtain ⟨hc1, hf1⟩ := bcell hb1; have hz1 := hb1.size; simp at hz1; clear hb1)
    | (go_at_call 42; refine (ruler_any HR.out _).mono ?_; rintro e w2 ⟨rfl, hb2⟩; have HB2 := Lib.hid (two_stay HB1 hb2); clear hb2)
    | (go_at_call 46; refine (rbounds_i a1 a2 HI.out _).mono ?_; rintro e w3 ⟨rfl, hb3⟩; have HB3 := Lib.hid (two_stay HB2 hb3); clear hb3))
  go_ret3
  exact ⟨rfl, HN.out.trans (HB3.out.mono (by simp))⟩
end Go.Proofs.YteoekkhgpdhnhaaDoor.Sc
