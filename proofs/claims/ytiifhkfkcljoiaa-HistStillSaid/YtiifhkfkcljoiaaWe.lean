/- THE WALKS of scale.Index, Count, Bounds. -/
import Derived.Test.YtiifhkfkcljoiaaWd
namespace Go.Proofs.Ytiifhkfkcljoiaa.Sc
open Go.RowKit
theorem bcell {W w1 : World} (hb : Below W.heap.size W w1) : (∀ b o, b < W.heap.size → w1.cell? ⟨b, o, none⟩ = W.cell? ⟨b, o, none⟩) ∧ (∀ b o, b < W.heap.size → w1.frozen? ⟨b, o, none⟩ = W.frozen? ⟨b, o, none⟩) :=
  ⟨fun b o h => hb.cell (p := ⟨b, o, none⟩) h, fun b o h => hb.frozen (p := ⟨b, o, none⟩) h⟩
theorem two_stay {w1 w2 w3 : World} (H : Hid (Below w1.heap.size w1 w2)) (h : Below w2.heap.size w2 w3) : Below w1.heap.size w1 w3 := H.out.trans (h.mono H.out.size)
theorem hOf_in (d : Int) : 4 ≤ (hOf d : Int) ∧ (hOf d : Int) ≤ 10 := by unfold hOf; split <;> (try split) <;> omega
theorem rindex_any {l d v : Int} (a1 : 1 ≤ l) (a2 : l ≤ 1099511627776) (w : World) (c1 : 0 ≤ v) (c2 : v ≤ 2305843009213693952) : Calls Try.prog 52 #[.agg #[.int .i64 (eOf l), .int .i64 (hOf d)], .int .i64 v] w fun r w' => r = .returned (.int .i64 (SC.idx (hOf d) (eOf l) v.toNat)) ∧ Below w.heap.size w w' := by
  obtain ⟨n, rfl⟩ := Int.eq_ofNat_of_zero_le c1
  exact index_any (hOf d) (eOf l) n w (eOf_val a1 a2).2 (hOf_in d).1 (hOf_in d).2 c2
theorem sindex_yes {l h d v : Int} (r : rightB l h d = true) (w : World) (c1 : 0 ≤ v) (c2 : v ≤ h) : Calls Try.prog 32 #[.agg #[.int .i64 l, .int .i64 h, .int .i64 d], .int .i64 v] w fun e w' => e = .returned (.tuple #[.int .i64 (SC.idx (hOf d) (eOf l) v.toNat), .int .i64 0]) ∧ Below w.heap.size w w' := by
  obtain ⟨a1, a2, a3, a4, a5, a6⟩ := right_of r
  have hnew : Below w.heap.size w (w.alloc (.cells #[.int .i64 l, .int .i64 h, .int .i64 d] 23)) := (Below.refl _ _).alloc (Nat.le_refl _) _
  have HN := Lib.hid hnew
  have HR := Lib.hid r
  clear hnew r
  go_enter Try.func32, Try.ntmps32
  go_wp2_with (first
    | (go_at_call 50; refine (check_yes HR.out _).mono ?_; rintro e w1 ⟨rfl, hb1⟩; have HB1 := Lib.hid hb1; obtain ⟨hc1, hf1⟩ := bcell hb1; have hz1 := hb1.size; simp at hz1; clear hb1)
    | (go_at_call 51; refine (ruler_any HR.out _).mono ?_; rintro e w2 ⟨rfl, hb2⟩; have HB2 := Lib.hid (two_stay HB1 hb2); clear hb2)
    | (go_at_call 52; refine (rindex_any a1 a2 _ c1 (by omega)).mono ?_; rintro e w3 ⟨rfl, hb3⟩; have HB3 := Lib.hid (two_stay HB2 hb3); clear hb3))
  go_ret2
  exact ⟨rfl, HN.out.trans (HB3.out.mono (by simp))⟩
theorem sindex_no {l h d v : Int} (r : rightB l h d = false) (w : World) : Calls Try.prog 32 #[.agg #[.int .i64 l, .int .i64 h, .int .i64 d], .int .i64 v] w fun e w' => e = .returned (.tuple #[.int .i64 0, .int .i64 80]) ∧ Below w.heap.size w w' := by
  have HN := Lib.hid (show Below w.heap.size w (w.alloc (.cells #[.int .i64 l, .int .i64 h, .int .i64 d] 23)) from (Below.refl _ _).alloc (Nat.le_refl _) _)
  have HR := Lib.hid r
  clear r
  go_enter Try.func32, Try.ntmps32
  go_wp2_with (go_at_call 50; refine (check_no HR.out _).mono ?_; rintro e w1 ⟨rfl, hb1⟩; have HB1 := Lib.hid hb1; obtain ⟨hc1, hf1⟩ := bcell hb1; have hz1 := hb1.size; simp at hz1; clear hb1)
  go_ret2
  exact ⟨rfl, HN.out.trans (HB1.out.mono (by simp))⟩
theorem sindex_out {l h d v : Int} (r : rightB l h d = true) (hv : v < 0 ∨ h < v) (w : World) : Calls Try.prog 32 #[.agg #[.int .i64 l, .int .i64 h, .int .i64 d], .int .i64 v] w fun e w' => e = .returned (.tuple #[.int .i64 0, .int .i64 2]) ∧ Below w.heap.size w w' := by
  have HN := Lib.hid (show Below w.heap.size w (w.alloc (.cells #[.int .i64 l, .int .i64 h, .int .i64 d] 23)) from (Below.refl _ _).alloc (Nat.le_refl _) _)
  have HR := Lib.hid r
  clear r
  rcases Int.lt_or_le v 0 with h0 | h0
  · clear hv
    go_enter Try.func32, Try.ntmps32
    go_wp2_with (go_at_call 50; refine (check_yes HR.out _).mono ?_; rintro e w1 ⟨rfl, hb1⟩; have HB1 := Lib.hid hb1; obtain ⟨hc1, hf1⟩ := bcell hb1; have hz1 := hb1.size; simp at hz1; clear hb1)
    go_ret2
    exact ⟨rfl, HN.out.trans (HB1.out.mono (by simp))⟩
  · have h1 : h < v := by omega
    clear hv
    go_enter Try.func32, Try.ntmps32
    go_wp2_with (go_at_call 50; refine (check_yes HR.out _).mono ?_; rintro e w1 ⟨rfl, hb1⟩; have HB1 := Lib.hid hb1; obtain ⟨hc1, hf1⟩ := bcell hb1; have hz1 := hb1.size; simp at hz1; clear hb1)
    go_ret2
    exact ⟨rfl, HN.out.trans (HB1.out.mono (by simp))⟩
/-- how many buckets -/
def cnt (l h d : Int) : Nat := SC.idx (hOf d) (eOf l) h.toNat + 1
theorem scount_no {l h d : Int} (r : rightB l h d = false) (w : World) : Calls Try.prog 31 #[.agg #[.int .i64 l, .int .i64 h, .int .i64 d]] w fun e w' => e = .returned (.tuple #[.int .i64 0, .int .i64 80]) ∧ Below w.heap.size w w' := by
  have HN := Lib.hid (show Below w.heap.size w (w.alloc (.cells #[.int .i64 l, .int .i64 h, .int .i64 d] 23)) from (Below.refl _ _).alloc (Nat.le_refl _) _)
  have HR := Lib.hid r
  clear r
  go_enter Try.func31, Try.ntmps31
  go_wp2_with (go_at_call 50; refine (check_no HR.out _).mono ?_; rintro e w1 ⟨rfl, hb1⟩; have HB1 := Lib.hid hb1; obtain ⟨hc1, hf1⟩ := bcell hb1; have hz1 := hb1.size; simp at hz1; clear hb1)
  go_ret2
  exact ⟨rfl, HN.out.trans (HB1.out.mono (by simp))⟩
theorem cnt_val {l h d : Int} (r : rightB l h d = true) : IntKind.i64.wrap ((SC.idx (hOf d) (eOf l) h.toNat : Int) + 1) = (cnt l h d : Int) ∧ (SC.idx (hOf d) (eOf l) h.toNat : Int) ≤ 67584 := by
  obtain ⟨a1, a2, a3, a4, a5, a6⟩ := right_of r
  have := SC.idx_small (h := hOf d) (e := eOf l) (n := h.toNat) (by omega) (by have := (hOf_in d).2; omega)
  unfold cnt
  rw [IntWalk.i64_in _ (by omega)]
  omega
set_option maxHeartbeats 800000 in
theorem scount_yes {l h d : Int} (r : rightB l h d = true) (w : World) : Calls Try.prog 31 #[.agg #[.int .i64 l, .int .i64 h, .int .i64 d]] w fun e w' => e = .returned (.tuple #[.int .i64 (cnt l h d), .int .i64 0]) ∧ Below w.heap.size w w' := by
  obtain ⟨a1, a2, a3, a4, a5, a6⟩ := right_of r
  obtain ⟨hcn, hcs⟩ := cnt_val r
  have HN := Lib.hid (show Below w.heap.size w (w.alloc (.cells #[.int .i64 l, .int .i64 h, .int .i64 d] 23)) from (Below.refl _ _).alloc (Nat.le_refl _) _)
  have HR := Lib.hid r
  clear r
  go_enter Try.func31, Try.ntmps31
  go_upto_region 4 with ((go_at_call 50; refine (check_yes HR.out _).mono ?_; rintro e w1 ⟨rfl, hb1⟩; have HB1 := Lib.hid hb1; obtain ⟨hc1, hf1⟩ := bcell hb1; have hz1 := hb1.size; simp at hz1; clear hb1))
  have k0 : w1.cell? ⟨w.heap.size, 0, none⟩ = some (.int .i64 l) := by rw [hc1 _ _ (by simp)]; simp [go_sem]
  have k1 : w1.cell? ⟨w.heap.size, 1, none⟩ = some (.int .i64 h) := by rw [hc1 _ _ (by simp)]; simp [go_sem]
  have k2 : w1.cell? ⟨w.heap.size, 2, none⟩ = some (.int .i64 d) := by rw [hc1 _ _ (by simp)]; simp [go_sem]
  clear hc1 hf1
  go_region_held3 (fun w' => w'.cell? ⟨w.heap.size, 0, none⟩ = some (.int .i64 l) ∧ w'.cell? ⟨w.heap.size, 1, none⟩ = some (.int .i64 h) ∧ w'.cell? ⟨w.heap.size, 2, none⟩ = some (.int .i64 d))
    (first | (with_reducible exact ⟨q0, q1, q2⟩) | (with_reducible exact ⟨r0, r1, r2⟩) | go_keep)
    (first
    | (go_at_call 51; refine (ruler_any HR.out _).mono ?_; rintro e w2 ⟨rfl, hb2⟩; have q0 : w2.cell? ⟨w.heap.size, 0, none⟩ = some (.int .i64 l) := (hb2.cell (p := ⟨w.heap.size, 0, none⟩) (by simp; omega)).trans (by simpa using k0); have q1 : w2.cell? ⟨w.heap.size, 1, none⟩ = some (.int .i64 h) := (hb2.cell (p := ⟨w.heap.size, 1, none⟩) (by simp; omega)).trans (by simpa using k1); have q2 : w2.cell? ⟨w.heap.size, 2, none⟩ = some (.int .i64 d) := (hb2.cell (p := ⟨w.heap.size, 2, none⟩) (by simp; omega)).trans (by simpa using k2); have hz2 := hb2.size; simp at hz2; have HB2 := Lib.hid hb2; clear hb2)
    | (go_at_call 52; refine (rindex_any a1 a2 _ (by omega) (by omega)).mono ?_; rintro e w3 ⟨rfl, hb3⟩; have r0 : w3.cell? ⟨w.heap.size, 0, none⟩ = some (.int .i64 l) := (hb3.cell (p := ⟨w.heap.size, 0, none⟩) (by simp; omega)).trans (by simpa using q0); have r1 : w3.cell? ⟨w.heap.size, 1, none⟩ = some (.int .i64 h) := (hb3.cell (p := ⟨w.heap.size, 1, none⟩) (by simp; omega)).trans (by simpa using q1); have r2 : w3.cell? ⟨w.heap.size, 2, none⟩ = some (.int .i64 d) := (hb3.cell (p := ⟨w.heap.size, 2, none⟩) (by simp; omega)).trans (by simpa using q2); have HB3 := Lib.hid hb3; clear hb3))
  all_goals
    go_wp2_with fail
    go_ret2
    exact ⟨rfl, HN.out.trans ((two_stay (Lib.hid (two_stay (Lib.hid (two_stay HB1 (Below.refl _ _).drew)) HB2.out)) HB3.out).mono (by simp))⟩
end Go.Proofs.Ytiifhkfkcljoiaa.Sc
