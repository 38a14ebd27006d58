/- THE WALKS of which of two rates is greater. -/
import Derived.Test.YthbphanlmhghdaaDoorWg
namespace Go.Proofs.YthbphanlmhghdaaDoor
open Go.RowKit

/-- a call's own four cells, in two blocks, are kept, whatever is called -/
def Four (w : World) (a b c d : Value) (w1 : World) : Prop :=
  (w1.cell? ⟨w.heap.size, 0, none⟩ = some a ∧ w1.cell? ⟨w.heap.size, 1, none⟩ = some b ∧ w1.cell? ⟨w.heap.size + 1, 0, none⟩ = some c ∧ w1.cell? ⟨w.heap.size + 1, 1, none⟩ = some d) ∧ Below w.heap.size w w1 ∧ w.heap.size + 2 ≤ w1.heap.size
theorem four_call {w w1 w2 : World} {a b c d : Value} (h : Four w a b c d w1) (hb : Below w1.heap.size w1 w2) : Four w a b c d w2 := by
  obtain ⟨⟨h1, h2, h5, h6⟩, h3, h4⟩ := h
  have k : ∀ p : Addr, p.block < w1.heap.size → w2.cell? p = w1.cell? p := fun p hp => hb.cell hp
  refine ⟨⟨(k _ (by show w.heap.size < _; omega)).trans h1, (k _ (by show w.heap.size < _; omega)).trans h2, (k _ (by show w.heap.size + 1 < _; omega)).trans h5, (k _ (by show w.heap.size + 1 < _; omega)).trans h6⟩, h3.trans (hb.mono (by omega)), ?_⟩
  have := hb.size
  omega
theorem four_drew {w w1 : World} {a b c d : Value} (h : Four w a b c d w1) : Four w a b c d w1.drew := ⟨h.1, ⟨h.2.1.os, h.2.1.tape, h.2.1.output, h.2.1.size, h.2.1.block⟩, h.2.2⟩
theorem four_below {w w1 : World} {a b c d : Value} (h : Four w a b c d w1) : Below w.heap.size w w1 := h.2.1
theorem four_start (w : World) (a b c d : Value) (t : TypeId) : Four w a b c d ((w.alloc (.cells #[a, b] t)).alloc (.cells #[c, d] t)) :=
  ⟨⟨by simp [go_sem, World.cell?_alloc_past], by simp [go_sem, World.cell?_alloc_past], by simp [go_sem], by simp [go_sem]⟩, ((Below.refl _ _).alloc (Nat.le_refl _) _).alloc (by simp) _, by simp⟩

def cmpOut (N P M Q : Int) : Int × Int := if TM.right N P ∧ TM.right M Q then (TM.cmpI (N * Q) (M * P), 0) else (0, 21)
theorem cmpOut_ok {N P M Q : Int} (h : TM.right N P) (h' : TM.right M Q) : cmpOut N P M Q = (TM.cmpI (N * Q) (M * P), 0) := if_pos ⟨h, h'⟩
theorem cmpOut_bad {N P M Q : Int} (h : ¬ TM.right N P ∨ ¬ TM.right M Q) : cmpOut N P M Q = (0, 21) := if_neg (fun ⟨a, b⟩ => by rcases h with h | h; exact h a; exact h b)

set_option maxHeartbeats 1000000 in
theorem compare_any (N P M Q : Int) (w : World) :
    Calls Tryd.prog 20 #[.agg #[.int .i64 N, .int .i64 P], .agg #[.int .i64 M, .int .i64 Q]] w fun e w' => e = .returned (.tuple #[.int .i64 (cmpOut N P M Q).1, .int .i64 (cmpOut N P M Q).2]) ∧ Below w.heap.size w w' := by
  have F := Lib.hid (four_start w (.int .i64 N) (.int .i64 P) (.int .i64 M) (.int .i64 Q) 29)
  by_cases h : TM.right N P
  · by_cases h' : TM.right M Q
    · rw [cmpOut_ok h h']
      have hr := rateOut_ok h
      have hr' := rateOut_ok h'
      obtain ⟨a1, a2, a3, a4⟩ := h
      obtain ⟨b1, b2, b3, b4⟩ := h'
      have m1 : 0 ≤ N * Q := Int.mul_nonneg a1 (by omega)
      have m2 : 0 ≤ M * P := Int.mul_nonneg b1 (by omega)
      go_enter Tryd.func20, Tryd.ntmps20
      go_wp2_with fail
      refine (checkRate_any _ _ _).mono ?_
      rw [hr]
      rintro e w1 ⟨rfl, hb1⟩
      have F1 := Lib.hid (four_call F.out hb1)
      clear hb1
      obtain ⟨c1, c2, c3, c4⟩ := F1.out.1
      go_wp2_with fail
      refine (checkRate_any _ _ _).mono ?_
      rw [hr']
      rintro e w2 ⟨rfl, hb2⟩
      have F2 := four_call F1.out hb2
      clear hb2 c1 c2 c3 c4 F1 F
      unfold Four at F2
      go_wp2
      go_region_held3 (fun w' => (w'.cell? ⟨w.heap.size, 0, none⟩ = some (.int .i64 N) ∧ w'.cell? ⟨w.heap.size, 1, none⟩ = some (.int .i64 P) ∧ w'.cell? ⟨w.heap.size + 1, 0, none⟩ = some (.int .i64 M) ∧ w'.cell? ⟨w.heap.size + 1, 1, none⟩ = some (.int .i64 Q)) ∧ Below w.heap.size w w' ∧ w.heap.size + 2 ≤ w'.heap.size) (first | assumption | exact four_drew ‹_› | exact four_call ‹_› ‹_›)
        (first
          | (go_at_call 46; refine (product_any _ _ _ (by omega) (by omega) (by omega) (by omega)).mono ?_; rintro e w' ⟨rfl, hb⟩)
          | (go_at_call 51; refine (compare_words (N * Q) (M * P) _ m1 m2).mono ?_; rintro e w' ⟨rfl, hb⟩))
      all_goals
        go_wp2
        go_ret2
        exact ⟨rfl, four_below (a := .int .i64 N) (b := .int .i64 P) (c := .int .i64 M) (d := .int .i64 Q) ‹_›⟩
    · rw [cmpOut_bad (.inr h')]
      have hr := rateOut_ok h
      have hr' := rateOut_bad h'
      clear h h'
      go_enter Tryd.func20, Tryd.ntmps20
      go_wp2_with fail
      refine (checkRate_any _ _ _).mono ?_
      rw [hr]
      rintro e w1 ⟨rfl, hb1⟩
      have F1 := Lib.hid (four_call F.out hb1)
      clear hb1
      obtain ⟨c1, c2, c3, c4⟩ := F1.out.1
      go_wp2_with fail
      refine (checkRate_any _ _ _).mono ?_
      rw [hr']
      rintro e w2 ⟨rfl, hb2⟩
      have F2 := Lib.hid (four_call F1.out hb2)
      clear hb2 c1 c2 c3 c4
      go_wp2
      go_ret2
      exact ⟨rfl, four_below F2.out⟩
  · rw [cmpOut_bad (.inl h)]
    have hr := rateOut_bad h
    clear h
    go_enter Tryd.func20, Tryd.ntmps20
    go_wp2_with fail
    refine (checkRate_any _ _ _).mono ?_
    rw [hr]
    rintro e w1 ⟨rfl, hb1⟩
    have F1 := Lib.hid (four_call F.out hb1)
    clear hb1
    go_wp2
    go_ret2
    exact ⟨rfl, four_below F1.out⟩

set_option maxHeartbeats 1000000 in
theorem refCompare_walk (N P M Q h l i m c : Int) (w : World) (hx : N * Q / 1152921504606846976 = h) (hx' : N * Q % 1152921504606846976 = l) (hy : M * P / 1152921504606846976 = i) (hy' : M * P % 1152921504606846976 = m)
    (r : TM.right N P) (r' : TM.right M Q) (hc : (h < i ∧ c = -1) ∨ (h = i ∧ l < m ∧ c = -1) ∨ (h = i ∧ l = m ∧ c = 0) ∨ (h = i ∧ m < l ∧ c = 1) ∨ (i < h ∧ c = 1)) :
    Calls Tryd.prog 21 #[.agg #[.int .i64 N, .int .i64 P], .agg #[.int .i64 M, .int .i64 Q]] w fun e w' => e = .returned (.tuple #[.int .i64 c, .int .i64 0]) ∧ Below w.heap.size w w' := by
  have F := Lib.hid (four_start w (.int .i64 N) (.int .i64 P) (.int .i64 M) (.int .i64 Q) 29)
  have hr : decide (TM.right N P) = true := decide_eq_true r
  have hr' : decide (TM.right M Q) = true := decide_eq_true r'
  obtain ⟨a1, a2, a3, a4⟩ := r
  obtain ⟨b1, b2, b3, b4⟩ := r'
  rcases hc with ⟨hlt, rfl⟩ | ⟨rfl, hlt, rfl⟩ | ⟨rfl, rfl, rfl⟩ | ⟨rfl, hlt, rfl⟩ | ⟨hlt, rfl⟩
  all_goals
    go_enter Tryd.func21, Tryd.ntmps21
    go_wp2_with fail
    refine (right_any _ _ _).mono ?_
    rw [hr]
    rintro e w1 ⟨rfl, hb1⟩
    have F1 := Lib.hid (four_call F.out hb1)
    clear hb1
    obtain ⟨c1, c2, c3, c4⟩ := F1.out.1
    go_wp2_with fail
    refine (right_any _ _ _).mono ?_
    rw [hr']
    rintro e w2 ⟨rfl, hb2⟩
    have F2 := Lib.hid (four_call F1.out hb2)
    clear hb2 c1 c2 c3 c4
    obtain ⟨c1, c2, c3, c4⟩ := F2.out.1
    go_wp2_with (go_at_call 52; refine (wide_any _ _ _ (by omega) (by omega) (by omega) (by omega)).mono ?_; rintro e w' ⟨rfl, rfl⟩)
    go_ret2
    exact ⟨rfl, four_below F2.out⟩

theorem refCompare_bad (N P M Q : Int) (w : World) (r : ¬ TM.right N P ∨ ¬ TM.right M Q) :
    Calls Tryd.prog 21 #[.agg #[.int .i64 N, .int .i64 P], .agg #[.int .i64 M, .int .i64 Q]] w fun e w' => e = .returned (.tuple #[.int .i64 0, .int .i64 21]) ∧ Below w.heap.size w w' := by
  have F := Lib.hid (four_start w (.int .i64 N) (.int .i64 P) (.int .i64 M) (.int .i64 Q) 29)
  by_cases h : TM.right N P
  · have hr : decide (TM.right N P) = true := decide_eq_true h
    have hr' : decide (TM.right M Q) = false := decide_eq_false (by rcases r with r | r; exact absurd h r; exact r)
    clear h r
    go_enter Tryd.func21, Tryd.ntmps21
    go_wp2_with fail
    refine (right_any _ _ _).mono ?_
    rw [hr]
    rintro e w1 ⟨rfl, hb1⟩
    have F1 := Lib.hid (four_call F.out hb1)
    clear hb1
    obtain ⟨c1, c2, c3, c4⟩ := F1.out.1
    go_wp2_with fail
    refine (right_any _ _ _).mono ?_
    rw [hr']
    rintro e w2 ⟨rfl, hb2⟩
    have F2 := Lib.hid (four_call F1.out hb2)
    clear hb2 c1 c2 c3 c4
    go_wp2
    go_ret2
    exact ⟨rfl, four_below F2.out⟩
  · have hr : decide (TM.right N P) = false := decide_eq_false h
    clear h r
    go_enter Tryd.func21, Tryd.ntmps21
    go_wp2_with fail
    refine (right_any _ _ _).mono ?_
    rw [hr]
    rintro e w1 ⟨rfl, hb1⟩
    have F1 := Lib.hid (four_call F.out hb1)
    clear hb1
    obtain ⟨c1, c2, c3, c4⟩ := F1.out.1
    go_wp2_with fail
    refine (right_any _ _ _).mono ?_
    rintro e w2 ⟨rfl, hb2⟩
    have F2 := Lib.hid (four_call F1.out hb2)
    clear hb2 c1 c2 c3 c4
    go_wp2
    go_ret2
    exact ⟨rfl, four_below F2.out⟩

theorem refCompare_any (N P M Q : Int) (w : World) :
    Calls Tryd.prog 21 #[.agg #[.int .i64 N, .int .i64 P], .agg #[.int .i64 M, .int .i64 Q]] w fun e w' => e = .returned (.tuple #[.int .i64 (cmpOut N P M Q).1, .int .i64 (cmpOut N P M Q).2]) ∧ Below w.heap.size w w' := by
  by_cases h : TM.right N P ∧ TM.right M Q
  · rw [cmpOut_ok h.1 h.2]
    refine refCompare_walk N P M Q _ _ _ _ _ w rfl rfl rfl rfl h.1 h.2 ?_
    unfold TM.cmpI
    repeat' split
    all_goals omega
  · have h' : ¬ TM.right N P ∨ ¬ TM.right M Q := by
      by_cases a : TM.right N P
      · exact .inr (fun b => h ⟨a, b⟩)
      · exact .inl a
    rw [cmpOut_bad h']
    exact refCompare_bad N P M Q w h'
end Go.Proofs.YthbphanlmhghdaaDoor
