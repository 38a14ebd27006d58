/- THE WALKS of the document's own answers for snap: Right, Whole. -/
import Derived.Test.YtdadgppbpomdoaaQh
import Derived.Deep.LoopGhost
namespace Go.Proofs.Ytdadgppbpomdoaa
open Go Go.RowKit

set_option maxRecDepth 100000

theorem dr_1a {w : World} (n : Nat) (k r v t : Int) (kk1 : (k == 1) = true) (kk2 : (k == 2) = false) (kk3 : (k == 3) = false) (d0 : decide (0 ≤ r) = false) :
    Calls Try.prog 13 #[.int .i64 (n : Int), .agg #[.int .u8 k, .int .i64 r, .int .u32 v, .int .i64 t]] w fun e w' => e = .returned (.bool (rightS n k r v t)) ∧ Below w.heap.size w w' := by
  have E : Hid (rightS n k r v t = false) := Lib.hid (by simp [rightS, kk1, kk2, kk3, d0])
  go_enter Try.func13, Try.ntmps13
  go_wp2
  go_ret
  rw [E.out]
  exact ⟨rfl, (Below.refl _ _).alloc (Nat.le_refl _) _⟩

theorem dr_1b {w : World} (n : Nat) (k r v t : Int) (kk1 : (k == 1) = true) (kk2 : (k == 2) = false) (kk3 : (k == 3) = false) (d0 : decide (0 ≤ r) = true) (d1 : decide (r < (n : Int)) = false) :
    Calls Try.prog 13 #[.int .i64 (n : Int), .agg #[.int .u8 k, .int .i64 r, .int .u32 v, .int .i64 t]] w fun e w' => e = .returned (.bool (rightS n k r v t)) ∧ Below w.heap.size w w' := by
  have E : Hid (rightS n k r v t = false) := Lib.hid (by simp [rightS, kk1, kk2, kk3, d0, d1])
  go_enter Try.func13, Try.ntmps13
  go_wp2
  go_ret
  rw [E.out]
  exact ⟨rfl, (Below.refl _ _).alloc (Nat.le_refl _) _⟩

theorem dr_1c {w : World} (n : Nat) (k r v t : Int) (kk1 : (k == 1) = true) (kk2 : (k == 2) = false) (kk3 : (k == 3) = false) (d0 : decide (0 ≤ r) = true) (d1 : decide (r < (n : Int)) = true) :
    Calls Try.prog 13 #[.int .i64 (n : Int), .agg #[.int .u8 k, .int .i64 r, .int .u32 v, .int .i64 t]] w fun e w' => e = .returned (.bool (rightS n k r v t)) ∧ Below w.heap.size w w' := by
  have E : Hid (rightS n k r v t = (t == 0)) := Lib.hid (by simp [rightS, kk1, kk2, kk3, d0, d1])
  go_enter Try.func13, Try.ntmps13
  go_wp2
  go_ret
  rw [E.out]
  exact ⟨rfl, (Below.refl _ _).alloc (Nat.le_refl _) _⟩

theorem dr_2a {w : World} (n : Nat) (k r v t : Int) (kk1 : (k == 1) = false) (kk2 : (k == 2) = true) (kk3 : (k == 3) = false) (d0 : decide (0 ≤ r) = false) :
    Calls Try.prog 13 #[.int .i64 (n : Int), .agg #[.int .u8 k, .int .i64 r, .int .u32 v, .int .i64 t]] w fun e w' => e = .returned (.bool (rightS n k r v t)) ∧ Below w.heap.size w w' := by
  have E : Hid (rightS n k r v t = false) := Lib.hid (by simp [rightS, kk1, kk2, kk3, d0])
  go_enter Try.func13, Try.ntmps13
  go_wp2
  go_ret
  rw [E.out]
  exact ⟨rfl, (Below.refl _ _).alloc (Nat.le_refl _) _⟩

theorem dr_2b {w : World} (n : Nat) (k r v t : Int) (kk1 : (k == 1) = false) (kk2 : (k == 2) = true) (kk3 : (k == 3) = false) (d0 : decide (0 ≤ r) = true) (d1 : decide (r < (n : Int)) = false) :
    Calls Try.prog 13 #[.int .i64 (n : Int), .agg #[.int .u8 k, .int .i64 r, .int .u32 v, .int .i64 t]] w fun e w' => e = .returned (.bool (rightS n k r v t)) ∧ Below w.heap.size w w' := by
  have E : Hid (rightS n k r v t = false) := Lib.hid (by simp [rightS, kk1, kk2, kk3, d0, d1])
  go_enter Try.func13, Try.ntmps13
  go_wp2
  go_ret
  rw [E.out]
  exact ⟨rfl, (Below.refl _ _).alloc (Nat.le_refl _) _⟩

theorem dr_2c {w : World} (n : Nat) (k r v t : Int) (kk1 : (k == 1) = false) (kk2 : (k == 2) = true) (kk3 : (k == 3) = false) (d0 : decide (0 ≤ r) = true) (d1 : decide (r < (n : Int)) = true) (t0 : (t == 0) = false) :
    Calls Try.prog 13 #[.int .i64 (n : Int), .agg #[.int .u8 k, .int .i64 r, .int .u32 v, .int .i64 t]] w fun e w' => e = .returned (.bool (rightS n k r v t)) ∧ Below w.heap.size w w' := by
  have E : Hid (rightS n k r v t = false) := Lib.hid (by simp [rightS, kk1, kk2, kk3, d0, d1, t0])
  go_enter Try.func13, Try.ntmps13
  go_wp2
  go_ret
  rw [E.out]
  exact ⟨rfl, (Below.refl _ _).alloc (Nat.le_refl _) _⟩

theorem dr_2d {w : World} (n : Nat) (k r v t : Int) (kk1 : (k == 1) = false) (kk2 : (k == 2) = true) (kk3 : (k == 3) = false) (d0 : decide (0 ≤ r) = true) (d1 : decide (r < (n : Int)) = true) (t0 : (t == 0) = true) :
    Calls Try.prog 13 #[.int .i64 (n : Int), .agg #[.int .u8 k, .int .i64 r, .int .u32 v, .int .i64 t]] w fun e w' => e = .returned (.bool (rightS n k r v t)) ∧ Below w.heap.size w w' := by
  have E : Hid (rightS n k r v t = (v == 0)) := Lib.hid (by simp [rightS, kk1, kk2, kk3, d0, d1, t0])
  go_enter Try.func13, Try.ntmps13
  go_wp2
  go_ret
  rw [E.out]
  exact ⟨rfl, (Below.refl _ _).alloc (Nat.le_refl _) _⟩

theorem dr_3b {w : World} (n : Nat) (k r v t : Int) (kk1 : (k == 1) = false) (kk2 : (k == 2) = false) (kk3 : (k == 3) = true) (r0 : (r == 0) = false) :
    Calls Try.prog 13 #[.int .i64 (n : Int), .agg #[.int .u8 k, .int .i64 r, .int .u32 v, .int .i64 t]] w fun e w' => e = .returned (.bool (rightS n k r v t)) ∧ Below w.heap.size w w' := by
  have E : Hid (rightS n k r v t = false) := Lib.hid (by simp [rightS, kk1, kk2, kk3, r0])
  go_enter Try.func13, Try.ntmps13
  go_wp2
  go_ret
  rw [E.out]
  exact ⟨rfl, (Below.refl _ _).alloc (Nat.le_refl _) _⟩

theorem dr_3c {w : World} (n : Nat) (k r v t : Int) (kk1 : (k == 1) = false) (kk2 : (k == 2) = false) (kk3 : (k == 3) = true) (r0 : (r == 0) = true) (v0 : (v == 0) = false) :
    Calls Try.prog 13 #[.int .i64 (n : Int), .agg #[.int .u8 k, .int .i64 r, .int .u32 v, .int .i64 t]] w fun e w' => e = .returned (.bool (rightS n k r v t)) ∧ Below w.heap.size w w' := by
  have E : Hid (rightS n k r v t = false) := Lib.hid (by simp [rightS, kk1, kk2, kk3, r0, v0])
  go_enter Try.func13, Try.ntmps13
  go_wp2
  go_ret
  rw [E.out]
  exact ⟨rfl, (Below.refl _ _).alloc (Nat.le_refl _) _⟩

theorem dr_3d {w : World} (n : Nat) (k r v t : Int) (kk1 : (k == 1) = false) (kk2 : (k == 2) = false) (kk3 : (k == 3) = true) (r0 : (r == 0) = true) (v0 : (v == 0) = true) (t1 : decide (1 ≤ t) = false) :
    Calls Try.prog 13 #[.int .i64 (n : Int), .agg #[.int .u8 k, .int .i64 r, .int .u32 v, .int .i64 t]] w fun e w' => e = .returned (.bool (rightS n k r v t)) ∧ Below w.heap.size w w' := by
  have E : Hid (rightS n k r v t = false) := Lib.hid (by simp [rightS, kk1, kk2, kk3, r0, v0, t1])
  go_enter Try.func13, Try.ntmps13
  go_wp2
  go_ret
  rw [E.out]
  exact ⟨rfl, (Below.refl _ _).alloc (Nat.le_refl _) _⟩

theorem dr_3e {w : World} (n : Nat) (k r v t : Int) (kk1 : (k == 1) = false) (kk2 : (k == 2) = false) (kk3 : (k == 3) = true) (r0 : (r == 0) = true) (v0 : (v == 0) = true) (t1 : decide (1 ≤ t) = true) :
    Calls Try.prog 13 #[.int .i64 (n : Int), .agg #[.int .u8 k, .int .i64 r, .int .u32 v, .int .i64 t]] w fun e w' => e = .returned (.bool (rightS n k r v t)) ∧ Below w.heap.size w w' := by
  have E : Hid (rightS n k r v t = decide (t ≤ 1024)) := Lib.hid (by simp [rightS, kk1, kk2, kk3, r0, v0, t1])
  go_enter Try.func13, Try.ntmps13
  go_wp2
  go_ret
  rw [E.out]
  exact ⟨rfl, (Below.refl _ _).alloc (Nat.le_refl _) _⟩

theorem dr_0 {w : World} (n : Nat) (k r v t : Int) (kk1 : (k == 1) = false) (kk2 : (k == 2) = false) (kk3 : (k == 3) = false)  :
    Calls Try.prog 13 #[.int .i64 (n : Int), .agg #[.int .u8 k, .int .i64 r, .int .u32 v, .int .i64 t]] w fun e w' => e = .returned (.bool (rightS n k r v t)) ∧ Below w.heap.size w w' := by
  have E : Hid (rightS n k r v t = false) := Lib.hid (by simp [rightS, kk1, kk2, kk3])
  go_enter Try.func13, Try.ntmps13
  go_wp2
  go_ret
  rw [E.out]
  exact ⟨rfl, (Below.refl _ _).alloc (Nat.le_refl _) _⟩

theorem dright_any (n : Nat) (k r v t : Int) (w : World) :
    Calls Try.prog 13 #[.int .i64 (n : Int), .agg #[.int .u8 k, .int .i64 r, .int .u32 v, .int .i64 t]] w fun e w' => e = .returned (.bool (rightS n k r v t)) ∧ Below w.heap.size w w' := by
  by_cases h1 : k = 1
  · subst h1
    cases d0 : decide (0 ≤ r)
    · exact dr_1a n 1 r v t rfl rfl rfl d0
    cases d1 : decide (r < (n : Int))
    · exact dr_1b n 1 r v t rfl rfl rfl d0 d1
    · exact dr_1c n 1 r v t rfl rfl rfl d0 d1
  by_cases h2 : k = 2
  · subst h2
    cases d0 : decide (0 ≤ r)
    · exact dr_2a n 2 r v t rfl rfl rfl d0
    cases d1 : decide (r < (n : Int))
    · exact dr_2b n 2 r v t rfl rfl rfl d0 d1
    cases t0 : (t == 0)
    · exact dr_2c n 2 r v t rfl rfl rfl d0 d1 t0
    · exact dr_2d n 2 r v t rfl rfl rfl d0 d1 t0
  by_cases h3 : k = 3
  · subst h3
    cases r0 : (r == 0)
    · exact dr_3b n 3 r v t rfl rfl rfl r0
    cases v0 : (v == 0)
    · exact dr_3c n 3 r v t rfl rfl rfl r0 v0
    cases t1 : decide (1 ≤ t)
    · exact dr_3d n 3 r v t rfl rfl rfl r0 v0 t1
    · exact dr_3e n 3 r v t rfl rfl rfl r0 v0 t1
  exact dr_0 n k r v t (by simpa using h1) (by simpa using h2) (by simpa using h3)
theorem dright_at {n : Nat} {k r v t : Int} {b : Bool} (h : rightS n k r v t = b) (w : World) :
    Calls Try.prog 13 #[.int .i64 (n : Int), .agg #[.int .u8 k, .int .i64 r, .int .u32 v, .int .i64 t]] w fun e w' => e = .returned (.bool b) ∧ Below w.heap.size w w' := h ▸ dright_any n k r v t w

/-- what an operation done whole comes to: the words, its registers, clean, its collects -/
def wholeW (ws : List Int) (op : Int × Int × Int × Int) : List Int := if op.1 = 1 then ws.set op.2.1.toNat (afterW (ws.getD op.2.1.toNat 0) op.2.2.1) else ws
def wholeX (ws : List Int) (op : Int × Int × Int × Int) : List Int := if op.1 = 1 then [afterW (ws.getD op.2.1.toNat 0) op.2.2.1] else if op.1 = 2 then [ws.getD op.2.1.toNat 0] else ws
def wholeC (op : Int × Int × Int × Int) : Bool := decide (op.1 = 3 ∧ 2 ≤ op.2.2.2)
def wholeN (op : Int × Int × Int × Int) : Int := if op.1 = 3 then if 2 ≤ op.2.2.2 then 2 else 1 else 0
structure EndQ (ws0 : List Int) (op : Int × Int × Int × Int) (ws : List Int) (o : OpQ) : Prop where
  ph : o.ph = 2
  ws : ws = wholeW ws0 op
  xs : o.xs = wholeX ws0 op
  cl : o.cl = wholeC op
  co : (if o.k = 3 then (o.c : Int) else 0) = wholeN op
/-- an operation done alone, so far -/
def LoneQ (ws0 : List Int) (op : Int × Int × Int × Int) (ws : List Int) (o : OpQ) : Prop :=
  EndQ ws0 op ws o ∨ (ws = ws0 ∧ ((op.1 = 1 ∧ (o = newQ op ∨ o = { newQ op with ph := 1, saw := ws0.getD op.2.1.toNat 0 })) ∨ (op.1 = 2 ∧ o = newQ op) ∨
    (op.1 = 3 ∧ ∃ k, k < ws0.length ∧ (o = { newQ op with lw := ws0.take k } ∨ 2 ≤ op.2.2.2 ∧ o = { newQ op with c := 1, la := ws0, lw := ws0.take k }))))
def muQ (n : Nat) (o : OpQ) : Nat := if o.ph = 2 then 0 else if o.k = 1 then 2 - o.ph else if o.k = 2 then 1 else (2 - o.c) * n + 1 - o.lw.length
theorem lone_new {ws0 : List Int} {op : Int × Int × Int × Int} (h : rightS ws0.length op.1 op.2.1 op.2.2.1 op.2.2.2 = true) (h0 : 0 < ws0.length) : LoneQ ws0 op ws0 (newQ op) := by
  simp only [rightS, Bool.or_eq_true, Bool.and_eq_true, beq_iff_eq, decide_eq_true_eq] at h
  refine .inr ⟨rfl, ?_⟩
  rcases h with (h | h) | h
  · exact .inl ⟨h.1.1.1, .inl rfl⟩
  · exact .inr (.inl ⟨h.1.1.1.1, rfl⟩)
  · exact .inr (.inr ⟨h.1.1.1.1, 0, h0, .inl (by simp [newQ])⟩)
theorem take_next {l : List Int} {k : Nat} (h : k < l.length) : l.take k ++ [l.getD k 0] = l.take (k + 1) := by
  rw [List.take_add_one]
  simp [List.getD, List.getElem?_eq_getElem h]
theorem lone_step {n : Nat} {ws0 ws : List Int} {op : Int × Int × Int × Int} {o : OpQ} (hn : ws0.length = n) (hr : rightS n op.1 op.2.1 op.2.2.1 op.2.2.2 = true) (h : LoneQ ws0 op ws o) (hp : o.ph ≠ 2) :
    LoneQ ws0 op (stepQW ws o) (stepQ ws o) ∧ muQ n (stepQ ws o) < muQ n o := by
  simp only [rightS, Bool.or_eq_true, Bool.and_eq_true, beq_iff_eq, decide_eq_true_eq] at hr
  have ht : op.1 = 3 → 1 ≤ op.2.2.2 := fun e => by
    rcases hr with (h | h) | h
    · have := h.1.1.1; omega
    · have := h.1.1.1.1; omega
    · exact h.1.2
  clear hr
  rcases h with h | ⟨rfl, h⟩
  · exact absurd h.ph hp
  obtain ⟨k, r, v, t⟩ := op
  rcases h with ⟨rfl, rfl | rfl⟩ | ⟨rfl, rfl⟩ | ⟨rfl, j, hj, rfl | ⟨ht2, rfl⟩⟩
  · exact ⟨.inr ⟨by simp [stepQW, newQ], .inl ⟨rfl, .inr (by simp [stepQ, newQ])⟩⟩, by simp [muQ, stepQ, newQ]⟩
  · refine ⟨.inl ⟨by simp [stepQ, newQ], by simp [stepQW, newQ, wholeW], by simp [stepQ, newQ, wholeX], by simp [stepQ, newQ, wholeC], by simp [stepQ, newQ, wholeN]⟩, by simp [muQ, stepQ, newQ]⟩
  · refine ⟨.inl ⟨by simp [stepQ, newQ], by simp [stepQW, newQ, wholeW], by simp [stepQ, newQ, wholeX], by simp [stepQ, newQ, wholeC], by simp [stepQ, newQ, wholeN]⟩, by simp [muQ, stepQ, newQ]⟩
  · have htt := ht rfl
    have hl : (ws.take j).length = j := by simp; omega
    have hw : stepQW ws { newQ (3, r, v, t) with lw := ws.take j } = ws := by simp [stepQW, newQ]
    rw [hw]
    have ha := take_next hj
    by_cases hm : j + 1 < ws.length
    · have e : stepQ ws { newQ (3, r, v, t) with lw := ws.take j } = { newQ (3, r, v, t) with lw := ws.take (j + 1) } := by
        unfold stepQ
        simp only [newQ, hl, ha]
        simp [hm]
      rw [e]
      refine ⟨.inr ⟨rfl, .inr (.inr ⟨rfl, j + 1, hm, .inl rfl⟩)⟩, ?_⟩
      simp [muQ, newQ]
      omega
    · have hf : ws.take (j + 1) = ws := List.take_of_length_le (by omega)
      have hne : ¬ ws = [] := by intro e; rw [e] at hj; simp at hj
      by_cases h1 : t = 1
      · subst h1
        have e : stepQ ws { newQ (3, r, v, 1) with lw := ws.take j } = { newQ (3, r, v, 1) with lw := ws.take j, ph := 2, c := 1, cl := false, xs := ws } := by
          unfold stepQ
          simp only [newQ, hl, ha, hf]
          simp [hm, hne]
        rw [e]
        exact ⟨.inl ⟨rfl, by simp [wholeW], by simp [wholeX], by simp [wholeC], by simp [wholeN, newQ]⟩, by simp [muQ, newQ]; omega⟩
      · have e : stepQ ws { newQ (3, r, v, t) with lw := ws.take j } = { newQ (3, r, v, t) with c := 1, la := ws, lw := ws.take 0 } := by
          unfold stepQ
          simp only [newQ, hl, ha, hf]
          have h1' : ¬ 1 = t := fun e => h1 e.symm
          simp [hm, hne, h1']
        rw [e]
        simp only at htt
        refine ⟨.inr ⟨rfl, .inr (.inr ⟨rfl, 0, by omega, .inr ⟨show 2 ≤ t by omega, rfl⟩⟩)⟩, ?_⟩
        simp [muQ, newQ]
        omega
  · have htt := ht rfl
    have hl : (ws.take j).length = j := by simp; omega
    have hw : stepQW ws { newQ (3, r, v, t) with c := 1, la := ws, lw := ws.take j } = ws := by simp [stepQW, newQ]
    rw [hw]
    have ha := take_next hj
    by_cases hm : j + 1 < ws.length
    · have e : stepQ ws { newQ (3, r, v, t) with c := 1, la := ws, lw := ws.take j } = { newQ (3, r, v, t) with c := 1, la := ws, lw := ws.take (j + 1) } := by
        unfold stepQ
        simp only [newQ, hl, ha]
        simp [hm]
      rw [e]
      refine ⟨.inr ⟨rfl, .inr (.inr ⟨rfl, j + 1, hm, .inr ⟨ht2, rfl⟩⟩)⟩, ?_⟩
      simp [muQ, newQ]
      omega
    · have hf : ws.take (j + 1) = ws := List.take_of_length_le (by omega)
      have e : stepQ ws { newQ (3, r, v, t) with c := 1, la := ws, lw := ws.take j } = { newQ (3, r, v, t) with la := ws, lw := ws.take j, ph := 2, c := 2, cl := true, xs := ws } := by
        unfold stepQ
        simp only [newQ, hl, ha, hf]
        simp [hm]
      rw [e]
      simp only at ht2
      exact ⟨.inl ⟨rfl, by simp [wholeW], by simp [wholeX], by simp [wholeC, ht2], by simp [wholeN, newQ, ht2]⟩, by simp [muQ, newQ]; omega⟩

/-- the document's record is stored into its box -/
def undSet0 (w : World) (b : Nat) (x : DU) : World := (((((((((((((w).setCell ⟨b, 0, none⟩ (.int .u8 x.k)).setCell ⟨b, 1, none⟩ (.int .i64 x.r)).setCell ⟨b, 2, none⟩ (.int .u32 x.v)).setCell ⟨b, 3, none⟩ (.int .i64 x.t)).setCell ⟨b, 4, none⟩ (.bool x.ld)).setCell ⟨b, 5, none⟩ (.int .u64 x.saw)).setCell ⟨b, 6, none⟩ (.int .i64 x.at_)).setCell ⟨b, 7, none⟩ (sl x.last)).setCell ⟨b, 8, none⟩ (sl x.now)).setCell ⟨b, 9, none⟩ (.bool x.en)).setCell ⟨b, 10, none⟩ (sl x.regs)).setCell ⟨b, 11, none⟩ (.bool x.cl)).setCell ⟨b, 12, none⟩ (.int .i64 x.co)
theorem undSet0_part (w : World) (b : Nat) (x : DU) : Part [b] w (undSet0 w b x) := by
  unfold undSet0
  repeat (first | (with_reducible exact Part.refl _ _) | refine Part.set ?_ (by simp) _)
theorem undSet0_row {w : World} {b : Nat} {t : TypeId} {y : DU} (h : Row w b t y.cells) (x : DU) : Row (undSet0 w b x) b t x.cells :=
  ((((((((((((h.set 0 _).set 1 _).set 2 _).set 3 _).set 4 _).set 5 _).set 6 _).set 7 _).set 8 _).set 9 _).set 10 _).set 11 _).set 12 _
/-- what Whole leaves -/
def WholeQ (W : World) (w : World) (ws : List Int) (op : Int × Int × Int × Int) (e : Ending) (w' : World) : Prop :=
  ∃ s' r X', e = .returned (.tuple #[sl s', .agg #[sl r, .bool (wholeC op), .int .i64 (wholeN op)]]) ∧ Below w.heap.size w w' ∧ ListU W X' w' s' (wholeW ws op) ∧ RegsU W X' w' r (wholeX ws op)
/-- in Whole's loop -/
structure WholeI (W : World) (w : World) (n b5 b6 : Nat) (ws0 : List Int) (op : Int × Int × Int × Int) (s : Option Addr × Nat × Nat) (ws : List Int) (o : OpQ) (x : DU) (X : List Nat) (wr : World) : Prop where
  doc : ListU W X wr s ws
  rc : DocQ W X wr o x
  u : Row wr b6 45 x.cells
  vw : Row wr b5 43 [.slice none 0 0, .bool false, .int .i64 0]
  gt5 : w.heap.size ≤ b5
  gt6 : w.heap.size ≤ b6
  low : Below w.heap.size w wr
  lone : LoneQ ws0 op ws o
  len : ws.length = n
  ok : OkQ n o
  inv : InvQ n o
  us : ∀ y ∈ ws, U64 y
theorem RegsU.part {W w w' : World} {X : List Nat} {s : Option Addr × Nat × Nat} {xs : List Int} {S : List Nat} (h : RegsU W X w s xs) (hP : Part S w w') (hS : ∀ q, (sl s).ownBlock = some q → q ∉ S) : RegsU W X w' s xs := ⟨own_part h.1 hP hS, h.2⟩
theorem ListU.part {W w w' : World} {X : List Nat} {s : Option Addr × Nat × Nat} {xs : List Int} {S : List Nat} (h : ListU W X w s xs) (hP : Part S w w') (hS : ∀ q, (sl s).ownBlock = some q → q ∉ S) : ListU W X w' s xs := h.imp id fun ⟨a, b⟩ => ⟨own_part a hP hS, b⟩
theorem ListU.off {W w : World} {X : List Nat} {s : Option Addr × Nat × Nat} {xs : List Int} {b : Nat} {t : TypeId} {l : List Value} (h : ListU W X w s xs) (hr : Row w b t l) (ht : 39 ≠ t) : ∀ q, (sl s).ownBlock = some q → q ≠ b := fun q e => by
  rcases h with ⟨_, rfl⟩ | ⟨a, _⟩
  · cases e
  · exact own_off a hr ht q e
theorem RegsU.off {W w : World} {X : List Nat} {s : Option Addr × Nat × Nat} {xs : List Int} {b : Nat} {t : TypeId} {l : List Value} (h : RegsU W X w s xs) (hr : Row w b t l) (ht : 60 ≠ t) : ∀ q, (sl s).ownBlock = some q → q ≠ b := own_off h.1 hr ht
/-- behind what turns a block of another type -/
theorem DocQ.part {W w w' : World} {X : List Nat} {o : OpQ} {x : DU} {b : Nat} {t : TypeId} {l : List Value} (h : DocQ W X w o x) (hr : Row w b t l) (hP : Part [b] w w') (t1 : 39 ≠ t) (t2 : 60 ≠ t) : DocQ W X w' o x :=
  ⟨h.k, h.r, h.v, h.t, h.en, h.put, h.get, fun a c => by
    obtain ⟨l', m, e, h1, h2⟩ := h.scan a c
    exact ⟨l', m, e, h1.part hP (fun q hq => by simpa using h1.off hr t1 q hq), h2.part hP (fun q hq => by simpa using h2.off hr t1 q hq)⟩,
   fun a => ⟨(h.over a).1.part hP (fun q hq => by simpa using (h.over a).1.off hr t2 q hq), (h.over a).2⟩⟩
theorem WholeI.next {W w w2 w3 : World} {n b5 b6 : Nat} {ws0 ws : List Int} {op : Int × Int × Int × Int} {s s' : Option Addr × Nat × Nat} {o : OpQ} {x x' : DU} {X Y : List Nat} (h : WholeI W w n b5 b6 ws0 op s ws o x X w2) (hn0 : ws0.length = n) (hr : rightS n op.1 op.2.1 op.2.2.1 op.2.2.2 = true) (hp : o.ph ≠ 2) (hb : Below w2.heap.size w2 w3) (hL : ListU W (Y ++ X) w3 s' (stepQW ws o)) (hD : DocQ W (Y ++ X) w3 (stepQ ws o) x') :
    WholeI W w n b5 b6 ws0 op s' (stepQW ws o) (stepQ ws o) x' (Y ++ X) (undSet0 w3 b6 x') ∧ muQ n (stepQ ws o) < muQ n o := by
  have hP := undSet0_part w3 b6 x'
  have hu := h.u.below hb h.u.lt
  have hv := h.vw.below hb h.vw.lt
  obtain ⟨l1, l2⟩ := lone_step hn0 hr h.lone hp
  have h56 : b5 ≠ b6 := hv.ne hu (by decide)
  exact ⟨⟨hL.part hP (fun q hq => by simpa using hL.off hu (by decide) q hq), hD.part hu hP (by decide) (by decide), undSet0_row hu x', hv.part hP (by simpa using h56), h.gt5, h.gt6, (h.low.trans (hb.mono h.low.size)).trans (hP.below (Nat.le_trans h.low.size hb.size |> fun e => Nat.le_trans e (Nat.le_refl _)) (by simpa using h.gt6)), l1, (stepQW_length _ _).trans h.len, stepQ_ok h.us h.len h.ok, h.inv.step h.ok h.len h.us, stepQW_ok h.us h.ok⟩, l2⟩
theorem doc_new {W w : World} {n : Nat} {op : Int × Int × Int × Int} (X : List Nat) (hr : rightS n op.1 op.2.1 op.2.2.1 op.2.2.2 = true) : DocQ W X w (newQ op) ⟨op.1, op.2.1, op.2.2.1, op.2.2.2, false, 0, 0, nilU, nilU, false, nilU, false, 0⟩ := by
  simp only [rightS, Bool.or_eq_true, Bool.and_eq_true, beq_iff_eq, decide_eq_true_eq] at hr
  refine ⟨rfl, rfl, rfl, rfl, rfl, fun e _ => ⟨0, ?_, fun e => by simp [newQ] at e⟩, fun e _ => ?_, fun e _ => ⟨nilU, nilU, ?_, .inl ⟨rfl, rfl⟩, .inl ⟨rfl, rfl⟩⟩, fun e => by simp [newQ] at e⟩
  all_goals
    simp only [newQ] at e
    simp [newQ, e]
theorem lone_ph {ws0 ws : List Int} {op : Int × Int × Int × Int} {o : OpQ} (h : LoneQ ws0 op ws o) : o.ph ≤ 2 := by
  rcases h with e | ⟨_, ⟨_, rfl | rfl⟩ | ⟨_, rfl⟩ | ⟨_, j, _, rfl | ⟨_, rfl⟩⟩⟩
  · have := e.ph; omega
  all_goals simp [newQ]
theorem wholeQ_end {W w wr w' : World} {n b5 b6 : Nat} {ws0 ws : List Int} {op : Int × Int × Int × Int} {A' A3 : Option Addr} {m' c' n3 c3 : Nat} {o : OpQ} {x : DU} {X : List Nat} (h : WholeI W w n b5 b6 ws0 op (A', m', c') ws o x X wr) (he : EndQ ws0 op ws o) (hR : RegsU W X wr (A3, n3, c3) o.xs) (h5 : w.heap.size ≤ b5) (hP : Part [b5] wr w') :
    WholeQ W w ws0 op (.returned (.tuple #[.slice A' m' c', .agg #[.slice A3 n3 c3, .bool (wholeC op), .int .i64 (wholeN op)]])) w' := by
  have hd := h.doc
  rw [he.ws] at hd
  rw [he.xs] at hR
  exact ⟨(A', m', c'), (A3, n3, c3), X, rfl, h.low.trans (hP.below h.low.size (by simpa using h5)), hd.part hP (fun q hq => by simpa using hd.off h.vw (by decide) q hq), hR.part hP (fun q hq => by simpa using hR.off h.vw (by decide) q hq)⟩
set_option maxHeartbeats 6400000
theorem dwhole_any {W w : World} {X : List Nat} {ws : List Int} {n : Nat} {A : Option Addr} {m c : Nat} {op : Int × Int × Int × Int} (hs : ListU W X w (A, m, c) ws) (hlow : W.heap.size ≤ w.heap.size) (hn : ws.length = n) (h0 : 0 < n) (h64 : n ≤ 64) (hu : ∀ y ∈ ws, U64 y) (hr : rightS n op.1 op.2.1 op.2.2.1 op.2.2.2 = true) (hv : U32 op.2.2.1) :
    Calls Try.prog 25 #[.slice A m c, .agg #[.int .u8 op.1, .int .i64 op.2.1, .int .u32 op.2.2.1, .int .i64 op.2.2.2]] w (WholeQ W w ws op) := by
  have H := Lib.hid hs
  have HU := Lib.hid hu
  have HR := Lib.hid hr
  have HV := Lib.hid hv
  have HL := Lib.hid hlow
  have HN := Lib.hid hn
  have HO := Lib.hid (newQ_ok hr hv)
  clear hs hu hr hv hlow hn
  go_enter Try.func25, Try.ntmps25
  go_wp2
  go_loopg [0] (muQ n (newQ op)) (fun (mm : Nat) vv wr => ∃ A' m' c' ws' o x X', mm = muQ n o ∧ vv = .slice A' m' c' ∧ WholeI W w n (w.heap.size + 1) (w.heap.size + 1 + 1) ws op (A', m', c') ws' o x X' wr)
  case atStart =>
    refine ⟨A, m, c, ws, newQ op, ⟨op.1, op.2.1, op.2.2.1, op.2.2.2, false, 0, 0, nilU, nilU, false, nilU, false, 0⟩, X, rfl, rfl, ?_⟩
    have hb : Below w.heap.size w (((w.alloc (.cells #[.int .u8 op.1, .int .i64 op.2.1, .int .u32 op.2.2.1, .int .i64 op.2.2.2] 37)).alloc (.cells #[.slice none 0 0, .bool false, .int .i64 0] 43)).alloc (.cells (undD op.1 op.2.1 op.2.2.1 op.2.2.2 false 0 0 (.slice none 0 0) (.slice none 0 0) false (.slice none 0 0) false 0).toArray 45)) := (((Below.refl _ _).alloc (Nat.le_refl _) _).alloc (by simp) _).alloc (by simp; omega) _
    exact ⟨H.out.on hb, doc_new X HR.out, by have := Row.new ((w.alloc (.cells #[.int .u8 op.1, .int .i64 op.2.1, .int .u32 op.2.2.1, .int .i64 op.2.2.2] 37)).alloc (.cells #[.slice none 0 0, .bool false, .int .i64 0] 43)) 45 (undD op.1 op.2.1 op.2.2.1 op.2.2.2 false 0 0 (.slice none 0 0) (.slice none 0 0) false (.slice none 0 0) false 0); simpa [undD, DU.cells, sl, nilU] using this, by have := (Row.new (w.alloc (.cells #[.int .u8 op.1, .int .i64 op.2.1, .int .u32 op.2.2.1, .int .i64 op.2.2.2] 37)) 43 [.slice none 0 0, .bool false, .int .i64 0]).alloc (.cells (undD op.1 op.2.1 op.2.2.1 op.2.2.2 false 0 0 (.slice none 0 0) (.slice none 0 0) false (.slice none 0 0) false 0).toArray 45); simpa [undD, DU.cells, sl, nilU] using this, by omega, by omega, hb, lone_new (by rw [HN.out]; exact HR.out) (by rw [HN.out]; exact h0), HN.out, HO.out, InvQ.new h0 op, HU.out⟩
  case round =>
    obtain ⟨A', m', c', ws1, o, x, X1, hm, rfl, hS⟩ := hrel
    have HM := Lib.hid hm
    have HS := Lib.hid hS
    have hen := hS.rc.en
    have hrow := hS.u
    have hvw := hS.vw
    have HX := Lib.hid hS.rc
    clear hm hS
    obtain ⟨k, r, v, t, ld, saw, aq, ⟨A1, n1, c1⟩, ⟨A2, n2, c2⟩, en, ⟨A3, n3, c3⟩, cl, co⟩ := x
    simp only [DU.cells, sl, undD] at hrow
    simp only at hen
    obtain ⟨u0, u1, u2, u3, u4, u5, u6, u7, u8, u9, u10, u11, u12⟩ := hrow.thirteen
    have uf := hrow.free
    have ult := hrow.lt
    obtain ⟨z0, z1, z2⟩ := hvw.three
    have zf := hvw.free
    have zlt := hvw.lt
    clear hrow hvw
    have y12 : ¬ w.heap.size + 1 = w.heap.size + 1 + 1 := by omega
    have y21 : ¬ w.heap.size + 1 + 1 = w.heap.size + 1 := by omega
    by_cases hp : o.ph = 2
    · have hE : en = true := by rw [hen]; simpa using hp
      subst hE
      obtain ⟨hRO, hcl, hco⟩ := HX.out.over hp
      simp only at hcl hco
      have hee : EndQ ws op ws1 o := by
        rcases HS.out.lone with e | ⟨_, ⟨_, rfl | rfl⟩ | ⟨_, rfl⟩ | ⟨_, j, _, rfl | ⟨_, rfl⟩⟩⟩
        · exact e
        all_goals simp [newQ] at hp
      have hcl2 : cl = wholeC op := hcl.trans hee.cl
      have hco2 : co = wholeN op := hco.trans hee.co
      subst hcl2
      subst hco2
      have HE := Lib.hid hee
      have HRO := Lib.hid hRO
      clear hen hp hcl hco hee hRO
      go_wp2
      go_region
      all_goals
        go_wp2
        refine bodyPost_ret (v := .tuple #[.slice A' m' c', .agg #[.slice A3 n3 c3, .bool (wholeC op), .int .i64 (wholeN op)]]) (by simp [results, Try.results25, go_sem, z0, z1, z2, zf, y12, y21]) rfl ?_
        refine wholeQ_end (b5 := w.heap.size + 1) HS.out HE.out HRO.out (by omega) ?_
        repeat (first | (with_reducible exact Part.refl _ _) | (with_reducible refine Part.drew ?_) | (with_reducible refine Part.drewN ?_ _) | refine Part.set ?_ (by simp) _)
    · have hE : en = false := by rw [hen]; simpa using hp
      subst hE
      have HP := Lib.hid hp
      clear hen hp
      have HD := Lib.hid (dop_any HS.out.doc (Nat.le_trans HL.out HS.out.low.size) HS.out.len h64 HS.out.us HS.out.ok (lone_ph HS.out.lone) HP.out HS.out.inv HX.out)
      simp only [DU.cells, sl, undD] at HD
      go_wp2_with (go_at_call 15; refine HD.out.mono ?_; rintro e w3 ⟨⟨As, ms, cs⟩, ⟨k', r', v', t', ld', saw', aq', ⟨A1', n1', c1'⟩, ⟨A2', n2', c2'⟩, en', ⟨A3', n3', c3'⟩, cl', co'⟩, Y, rfl, hb, hY, hLn, hDn⟩; simp only [DU.cells, sl, undD]; have HLn := Lib.hid hLn; have HDn := Lib.hid hDn; have HB3 := Lib.hid hb; have hrow := HS.out.u.below hb HS.out.u.lt; simp only [DU.cells, sl, undD] at hrow; obtain ⟨k0, k1, k2, k3, k4, k5, k6, k7, k8, k9, k10, k11, k12⟩ := hrow.thirteen; have kf := hrow.free; have klt := hrow.lt; clear hb hY hLn hDn hrow)
      go_roundg (muQ n (stepQ ws1 o))
      case measure =>
        rw [HM.out]
        exact (HS.out.next HN.out HR.out HP.out HB3.out HLn.out HDn.out).2
      case rel =>
        exact ⟨As, ms, cs, _, _, _, _, rfl, rfl, (HS.out.next HN.out HR.out HP.out HB3.out HLn.out HDn.out).1⟩

end Go.Proofs.Ytdadgppbpomdoaa
