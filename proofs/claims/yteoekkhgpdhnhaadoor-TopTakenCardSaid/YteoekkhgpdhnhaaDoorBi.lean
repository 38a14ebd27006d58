/- THE WALKS of package quota: an operation alone; do, Take, Back, Left; begins. -/
import Derived.Test.YteoekkhgpdhnhaaDoorBh
namespace Go.Proofs.YteoekkhgpdhnhaaDoor
open Go Go.RowKit
set_option maxHeartbeats 1600000
set_option maxRecDepth 100000
/-- an operation that is alone: what it saw last is there as yet -/
def AloneB (ws : List Int) (o : OpB) : Prop := o.k = 1 → ((o.ph = 1 → ws.getD (o.wk + 1) 0 = o.saw) ∧ (o.ph = 3 → ws.getD 0 0 = o.saw))
/-- so many actions -/
def runB (ba : Int) : Nat → List Int × OpB → List Int × OpB
  | 0, s => s
  | m + 1, s => runB ba m (stepBW ba s.1 s.2, stepB ba s.1 s.2)
/-- how far an operation is from its end -/
def muO (n : Nat) (o : OpB) : Nat :=
  if o.ph = 9 then 0 else if o.k = 1 then (if o.ph = 0 then 5 else if o.ph = 1 then 1 else if o.ph = 2 then 3 else if o.ph = 3 then 2 else 1) else if o.k = 2 then (if o.ph = 0 then 2 else 1) else n - o.c
theorem muO_step {ba : Int} {ws : List Int} {o : OpB} (ha : AloneB ws o) (ho : OkB ws.length o) (h9 : ¬ o.ph = 9) : muO ws.length (stepB ba ws o) < muO ws.length o := by
  obtain ⟨k, wk, ph, saw, hand, c, sum, ans⟩ := o
  unfold AloneB at ha
  dsimp only at h9 ha
  rcases ho with ⟨a, b, hh⟩ | ⟨a, b, hh⟩ | ⟨a, b, hh⟩
  · dsimp only at a b hh
    subst a
    have ha := ha rfl
    rcases hh with hh | rfl | ⟨rfl, hz, hu⟩ | rfl | ⟨rfl, hz, hu⟩ | rfl
    · exact absurd hh h9
    · by_cases h : 0 < ws.getD (wk + 1) 0
      · rw [show stepB ba ws ⟨1, wk, 0, saw, hand, c, sum, ans⟩ = ⟨1, wk, 1, ws.getD (wk + 1) 0, hand, c, sum, ans⟩ by unfold stepB; rw [if_neg (by simp), if_pos rfl, if_pos rfl, if_pos h]]; simp [muO]
      · rw [show stepB ba ws ⟨1, wk, 0, saw, hand, c, sum, ans⟩ = ⟨1, wk, 2, saw, hand, c, sum, ans⟩ by unfold stepB; rw [if_neg (by simp), if_pos rfl, if_pos rfl, if_neg h]]; simp [muO]
    · rw [show stepB ba ws ⟨1, wk, 1, saw, hand, c, sum, ans⟩ = ⟨1, wk, 9, saw, hand, c, sum, 1⟩ by unfold stepB; rw [if_neg (by simp), if_pos rfl, if_neg (by simp), if_pos rfl, if_pos (ha.1 rfl)]]; simp [muO]
    · by_cases h : 0 < ws.getD 0 0
      · rw [show stepB ba ws ⟨1, wk, 2, saw, hand, c, sum, ans⟩ = ⟨1, wk, 3, ws.getD 0 0, hand, c, sum, ans⟩ by unfold stepB; rw [if_neg (by simp), if_pos rfl, if_neg (by simp), if_neg (by simp), if_pos rfl, if_pos h]]; simp [muO]
      · rw [show stepB ba ws ⟨1, wk, 2, saw, hand, c, sum, ans⟩ = ⟨1, wk, 9, saw, hand, c, sum, 0⟩ by unfold stepB; rw [if_neg (by simp), if_pos rfl, if_neg (by simp), if_neg (by simp), if_pos rfl, if_neg h]]; simp [muO]
    · by_cases h1 : min ba saw = 1
      · rw [show stepB ba ws ⟨1, wk, 3, saw, hand, c, sum, ans⟩ = ⟨1, wk, 9, saw, hand, c, sum, 1⟩ by unfold stepB; rw [if_neg (by simp), if_pos rfl, if_neg (by simp), if_neg (by simp), if_neg (by simp), if_pos rfl, if_pos (ha.2 rfl), if_pos h1]]; simp [muO]
      · rw [show stepB ba ws ⟨1, wk, 3, saw, hand, c, sum, ans⟩ = ⟨1, wk, 4, saw, min ba saw - 1, c, sum, ans⟩ by unfold stepB; rw [if_neg (by simp), if_pos rfl, if_neg (by simp), if_neg (by simp), if_neg (by simp), if_pos rfl, if_pos (ha.2 rfl), if_neg h1]]; simp [muO]
    · rw [show stepB ba ws ⟨1, wk, 4, saw, hand, c, sum, ans⟩ = ⟨1, wk, 9, saw, hand, c, sum, 1⟩ by unfold stepB; rw [if_neg (by simp), if_pos rfl, if_neg (by simp), if_neg (by simp), if_neg (by simp), if_neg (by simp)]]; simp [muO]
  · dsimp only at a b hh
    subst a
    rcases hh with hh | rfl | rfl
    · exact absurd hh h9
    · by_cases h : 0 < ws.getD (wk + 1) 0
      · rw [show stepB ba ws ⟨2, wk, 0, saw, hand, c, sum, ans⟩ = ⟨2, wk, 1, saw, ws.getD (wk + 1) 0, c, sum, ans⟩ by unfold stepB; rw [if_neg (by simp), if_neg (by simp), if_pos rfl, if_pos rfl, if_pos h]]; simp [muO]
      · rw [show stepB ba ws ⟨2, wk, 0, saw, hand, c, sum, ans⟩ = ⟨2, wk, 9, saw, hand, c, sum, 0⟩ by unfold stepB; rw [if_neg (by simp), if_neg (by simp), if_pos rfl, if_pos rfl, if_neg h]]; simp [muO]
    · rw [show stepB ba ws ⟨2, wk, 1, saw, hand, c, sum, ans⟩ = ⟨2, wk, 9, saw, hand, c, sum, IntKind.i64.wrap hand⟩ by unfold stepB; rw [if_neg (by simp), if_neg (by simp), if_pos rfl, if_neg (by simp)]]; simp [muO]
  · dsimp only at a b hh
    subst a
    rcases hh with hh | ⟨rfl, hc⟩
    · exact absurd hh h9
    · by_cases e : c + 1 = ws.length
      · simp [stepB, muO, e]; omega
      · simp [stepB, muO, e]; omega
theorem AloneB.step {ba : Int} {ws : List Int} {o : OpB} (ha : AloneB ws o) (ho : OkB ws.length o) : AloneB (stepBW ba ws o) (stepB ba ws o) := by
  by_cases h9 : o.ph = 9
  · intro _
    have e : stepB ba ws o = o := by simp [stepB, h9]
    rw [e]
    exact ⟨fun h => absurd h (by omega), fun h => absurd h (by omega)⟩
  obtain ⟨k, wk, ph, saw, hand, c, sum, ans⟩ := o
  unfold AloneB at ha ⊢
  dsimp only at h9 ha
  intro hk
  rcases ho with ⟨a, b, hh⟩ | ⟨a, b, hh⟩ | ⟨a, b, hh⟩
  · dsimp only at a b hh
    subst a
    have ha := ha rfl
    rcases hh with hh | rfl | ⟨rfl, hz, hu⟩ | rfl | ⟨rfl, hz, hu⟩ | rfl
    · exact absurd hh h9
    · by_cases h : 0 < ws.getD (wk + 1) 0
      · rw [show stepB ba ws ⟨1, wk, 0, saw, hand, c, sum, ans⟩ = ⟨1, wk, 1, ws.getD (wk + 1) 0, hand, c, sum, ans⟩ by unfold stepB; rw [if_neg (by simp), if_pos rfl, if_pos rfl, if_pos h]]; simp [stepBW]
      · rw [show stepB ba ws ⟨1, wk, 0, saw, hand, c, sum, ans⟩ = ⟨1, wk, 2, saw, hand, c, sum, ans⟩ by unfold stepB; rw [if_neg (by simp), if_pos rfl, if_pos rfl, if_neg h]]; simp [stepBW]
    · have := ha.1 rfl; simp only [List.getD_eq_getElem?_getD] at this; simp [stepB, stepBW, this]
    · by_cases h : 0 < ws.getD 0 0
      · rw [show stepB ba ws ⟨1, wk, 2, saw, hand, c, sum, ans⟩ = ⟨1, wk, 3, ws.getD 0 0, hand, c, sum, ans⟩ by unfold stepB; rw [if_neg (by simp), if_pos rfl, if_neg (by simp), if_neg (by simp), if_pos rfl, if_pos h]]; simp [stepBW]
      · rw [show stepB ba ws ⟨1, wk, 2, saw, hand, c, sum, ans⟩ = ⟨1, wk, 9, saw, hand, c, sum, 0⟩ by unfold stepB; rw [if_neg (by simp), if_pos rfl, if_neg (by simp), if_neg (by simp), if_pos rfl, if_neg h]]; simp [stepBW]
    · have := ha.2 rfl
      by_cases h1 : min ba saw = 1
      · simp only [List.getD_eq_getElem?_getD] at this; simp [stepB, stepBW, this, h1]
      · simp only [List.getD_eq_getElem?_getD] at this; simp [stepB, stepBW, this, h1]
    · simp [stepB, stepBW]
  · dsimp only at a; subst a
    unfold stepB at hk
    repeat' split at hk
    all_goals simp_all
  · dsimp only at a; subst a
    unfold stepB at hk
    repeat' split at hk
    all_goals simp_all
theorem runB_over {ba : Int} {ws : List Int} {o : OpB} (h : o.ph = 9) (m : Nat) : runB ba m (ws, o) = (ws, o) := by
  have e1 : stepBW ba ws o = ws := by simp [stepBW, h]
  have e2 : stepB ba ws o = o := by simp [stepB, h]
  induction m with
  | zero => rfl
  | succ m ih => unfold runB; rw [e1, e2]; exact ih
theorem stepBW_u64 {ba : Int} {ws : List Int} {o : OpB} (ho : OkB ws.length o) (hu : ∀ x ∈ ws, U64 x) (hb : 1 ≤ ba) : ∀ x ∈ stepBW ba ws o, U64 x := by
  intro x hx
  have key : ∀ (i : Nat) (y : Int), U64 y → x ∈ ws.set i y → U64 x := fun i y hy h => by
    rcases List.mem_or_eq_of_mem_set h with h | rfl
    · exact hu x h
    · exact hy
  by_cases h9 : o.ph = 9
  · simp [stepBW, h9] at hx; exact hu x hx
  obtain ⟨k, wk, ph, saw, hand, c, sum, ans⟩ := o
  dsimp only at h9
  rcases ho with ⟨a, b, hh⟩ | ⟨a, b, hh⟩ | ⟨a, b, hh⟩
  · dsimp only at a b hh
    subst a
    rcases hh with hh | rfl | ⟨rfl, hz, hs⟩ | rfl | ⟨rfl, hz, hs⟩ | rfl
    · exact absurd hh h9
    · simp [stepBW] at hx; exact hu x hx
    · unfold stepBW at hx
      dsimp only at hx
      repeat' split at hx
      all_goals first | exact hu x hx | exact key _ _ (by unfold U64 at hs ⊢; omega) hx | simp_all
    · simp [stepBW] at hx; exact hu x hx
    · unfold stepBW at hx
      dsimp only at hx
      repeat' split at hx
      all_goals first | exact hu x hx | exact key _ _ (by unfold U64 at hs ⊢; omega) hx | simp_all
    · unfold stepBW at hx
      dsimp only at hx
      repeat' split at hx
      all_goals first | exact hu x hx | exact key _ _ (u64_wrap _) hx | simp_all
  · dsimp only at a b hh
    subst a
    unfold stepBW at hx
    dsimp only at hx
    repeat' split at hx
    all_goals first | exact hu x hx | exact key _ _ U64.zero hx | exact key _ _ (u64_wrap _) hx | simp_all
  · dsimp only at a b hh
    subst a
    unfold stepBW at hx
    dsimp only at hx
    repeat' split at hx
    all_goals first | exact hu x hx | simp_all
/-- an operation alone ends -/
theorem runB_ends {ba : Int} {ws : List Int} {o : OpB} (ha : AloneB ws o) (ho : OkB ws.length o) (hu : ∀ x ∈ ws, U64 x) (hl : 2 ≤ ws.length) (hb : 1 ≤ ba) (m : Nat) (hm : muO ws.length o ≤ m) : (runB ba m (ws, o)).2.ph = 9 := by
  induction m generalizing ws o with
  | zero =>
    by_cases h9 : o.ph = 9
    · exact h9
    · have := muO_step (ba := ba) ha ho h9
      omega
  | succ m ih =>
    by_cases h9 : o.ph = 9
    · rw [runB_over h9]; exact h9
    · unfold runB
      have hlen := stepBW_length ba ws o
      have hlt := muO_step (ba := ba) ha ho h9
      exact ih (ha.step ho) (by rw [hlen]; exact ho.step hu hl) (stepBW_u64 ho hu hb) (by rw [hlen]; exact hl) (by dsimp only; rw [hlen]; omega)
theorem AloneB.new (ws : List Int) (k : Int) (wk : Nat) : AloneB ws (newB k wk) := fun _ => ⟨fun h => absurd h (by simp [newB]), fun h => absurd h (by simp [newB])⟩
/-- how far an operation is from its end, by its cells -/
def muW (n : Nat) (w : World) (bp : Nat) : Nat :=
  match w.cell? ⟨bp, 2, none⟩, w.cell? ⟨bp, 5, none⟩ with
  | some (.func (.func f) _ _), some (.int _ c) => if f = 36 then 5 else if f = 63 then 1 else if f = 64 then 3 else if f = 88 then 2 else if f = 105 then 1 else if f = 37 then 2 else if f = 65 then 1 else n - c.toNat
  | _, _ => 0
theorem muW_row {w : World} {bp bq n : Nat} {o : OpB} (h : Row w bp 97 (rowB bq o)) (ho : OkB n o) : muW n w bp = muO n o := by
  obtain ⟨k, wk, ph, saw, hand, c, sum, ans⟩ := o
  have e2 : w.cell? ⟨bp, 2, none⟩ = some (nxB ⟨k, wk, ph, saw, hand, c, sum, ans⟩) := h.cell 2
  have e5 : w.cell? ⟨bp, 5, none⟩ = some (.int .i64 (c : Int)) := h.cell 5
  unfold muW
  rw [e2, e5]
  rcases ho with ⟨a, b, hh⟩ | ⟨a, b, hh⟩ | ⟨a, b, hh⟩
  · dsimp only at a b hh
    subst a
    rcases hh with rfl | rfl | ⟨rfl, hz, hs⟩ | rfl | ⟨rfl, hz, hs⟩ | rfl <;> simp [nxB, muO, fnV]
  · dsimp only at a b hh
    subst a
    rcases hh with rfl | rfl | rfl <;> simp [nxB, muO, fnV]
  · dsimp only at a b hh
    subst a
    rcases hh with rfl | ⟨rfl, hc⟩ <;> simp [nxB, muO, fnV]
/-- what a whole operation leaves -/
def WholeB (w : World) (bq bk bw : Nat) (ba : Int) (ws : List Int) (v : Value) (e : Ending) (w' : World) : Prop := e = .returned v ∧ QuoM w' bq bk bw ba ws ∧ Part [bw] w w'
theorem bdo_nil {w : World} {k i : Int} : Calls Tryd.prog 40 #[.pointer none, .agg #[.int .u8 k, .int .i64 i]] w fun e w' => e = .returned (.tuple #[.int .i64 0, .int .i64 1]) ∧ Below w.heap.size w w' := by
  go_enter Tryd.func40, Tryd.ntmps40
  go_wp2_with (go_at_call 8; refine bstart_nil.mono ?_; rintro e w1 ⟨rfl, hb⟩; have HB := Lib.hid hb; clear hb)
  go_ret2
  exact ⟨rfl, ((Below.refl w.heap.size w).alloc (Nat.le_refl _) _).trans (HB.out.mono (by simp))⟩
theorem bdo_no {w : World} {bq bk bw n : Nat} {ba : Int} {ws : List Int} {k i : Int} (h : QuoM w bq bk bw ba ws) (hn : ws.length = n + 1) (hr : rightB n k i = false) :
    Calls Tryd.prog 40 #[.pointer (some ⟨bq, 0, none⟩), .agg #[.int .u8 k, .int .i64 i]] w fun e w' => e = .returned (.tuple #[.int .i64 0, .int .i64 2]) ∧ Below w.heap.size w w' := by
  have H := Lib.hid h
  have HN := Lib.hid hn
  have HR := Lib.hid hr
  clear h hn hr
  go_enter Tryd.func40, Tryd.ntmps40
  go_wp2_with (go_at_call 8; refine (bstart_no (H.out.alloc _) HN.out HR.out).mono ?_; rintro e w1 ⟨rfl, hb⟩; have HB := Lib.hid hb; clear hb)
  go_ret2
  exact ⟨rfl, ((Below.refl w.heap.size w).alloc (Nat.le_refl _) _).trans (HB.out.mono (by simp))⟩
theorem doneB_part {w w1 wr : World} {bw bp : Nat} {o : Obj} (hb : Below (w.alloc o).heap.size (w.alloc o) w1) (hn : (w.alloc o).heap.size ≤ bp) (hP : Part [bw, bp] w1 wr) : Part [bw] w wr := by
  refine Part.trans (S' := [bw, bp]) (((Part.refl [bw] w).alloc o).then_ (Part.of_below hb (Nat.le_refl _) _)) hP (fun q hq hm => ?_)
  simp at hn hm ⊢
  omega
/-- an operation that is right, on n workers -/
def FineB (n : Nat) (k : Int) (wk : Nat) : Prop := (k = 1 ∧ wk < n) ∨ (k = 2 ∧ wk < n) ∨ (k = 3 ∧ wk = 0)
theorem bdo_op {w : World} {bq bk bw n m : Nat} {ba : Int} {ws wsE : List Int} {k : Int} {wk : Nat} {oE : OpB} (h : QuoM w bq bk bw ba ws) (hn : ws.length = n + 1) (hf : FineB n k wk) (hr : runB ba m (ws, newB k wk) = (wsE, oE)) (hE : oE.ph = 9) :
    Calls Tryd.prog 40 #[.pointer (some ⟨bq, 0, none⟩), .agg #[.int .u8 k, .int .i64 (wk : Int)]] w (WholeB w bq bk bw ba wsE (.tuple #[.int .i64 oE.ans, .int .i64 0])) := by
  have H := Lib.hid h
  have HF := Lib.hid hf
  have HN := Lib.hid hn
  have HR := Lib.hid hr
  have HE := Lib.hid hE
  have g1 := h.head.lt
  have g2 := h.words.head.lt
  have g3 := h.words.row.lt
  have HK1 : Hid (OkB ws.length (newB k wk)) := Lib.hid (by rw [hn]; exact OkB.new hf)
  clear h hn hf hr hE
  go_enter Tryd.func40, Tryd.ntmps40
  go_wp2_with (go_at_call 8; refine (bstart_op (H.out.alloc _) HN.out HF.out).mono ?_; rintro e w1 ⟨bp, rfl, hn, hr1, hb⟩; have HB1 := Lib.hid hb; have HR1 := Lib.hid hr1; have HN1 := Lib.hid hn; have HS1 := Lib.hid ((H.out.alloc _).on hb); clear hb hr1 hn)
  go_loopw [] (fun wr => ∃ o wsx j, wsx.length = ws.length ∧ OkB wsx.length o ∧ AloneB wsx o ∧ runB ba j (wsx, o) = (wsE, oE) ∧ Row wr bp 97 (rowB bq o) ∧ QuoM wr bq bk bw ba wsx ∧ Part [bw, bp] w1 wr) (fun wr => muW ws.length wr bp)
  case atStart => exact ⟨_, _, _, rfl, HK1.out, AloneB.new _ _ _, HR.out, HR1.out, HS1.out, Part.refl _ _⟩
  case round =>
    obtain ⟨o, wsx, j, hlen, hok, ha, hrj, hrow, hrng, hpart⟩ := hrel
    have HROW := Lib.hid hrow
    have HRNG := Lib.hid hrng
    have HPART := Lib.hid hpart
    have HOK := Lib.hid hok
    have HLEN := Lib.hid hlen
    by_cases h2 : o.ph = 9
    · rw [runB_over h2] at hrj
      obtain ⟨rfl, rfl⟩ : wsx = wsE ∧ o = oE := ⟨congrArg Prod.fst hrj, congrArg Prod.snd hrj⟩
      have HD : Hid (decide (o.ph = 9) = true) := Lib.hid (by rw [h2]; rfl)
      clear hrow hrng hpart hok ha hrj h2 hlen
      go_wp2_with (first
        | (go_at_call 11; (with_reducible refine (bdone_op HROW.out).mono ?_); rw [HD.out]; rintro e wx ⟨rfl, rfl⟩)
        | (go_at_call 10; (with_reducible refine (banswer_op HROW.out).mono ?_); rintro e wx ⟨rfl, rfl⟩))
      go_ret2
      exact ⟨rfl, HRNG.out, doneB_part HB1.out HN1.out HPART.out⟩
    · have HD : Hid (decide (o.ph = 9) = false) := Lib.hid (by simpa using h2)
      obtain ⟨j', rfl⟩ : ∃ j', j = j' + 1 := by
        cases j with
        | zero =>
          obtain rfl : o = oE := congrArg Prod.snd hrj
          exact absurd HE.out h2
        | succ j' => exact ⟨j', rfl⟩
      have hrj' : runB ba j' (stepBW ba wsx o, stepB ba wsx o) = (wsE, oE) := hrj
      have hl2 : (stepBW ba wsx o).length = ws.length := by rw [stepBW_length]; exact hlen
      have HL2 := Lib.hid hl2
      have HRJ := Lib.hid hrj'
      have HAL := Lib.hid (ha.step (ba := ba) hok)
      have HMU : Hid (muO ws.length (stepB ba wsx o) < muO ws.length o) := Lib.hid (by rw [← hlen]; exact muO_step ha hok h2)
      have HOK2 : Hid (OkB (stepBW ba wsx o).length (stepB ba wsx o)) := Lib.hid (by rw [stepBW_length]; exact hok.step hrng.words.ok hrng.least)
      have HM0 : Hid (muW ws.length wr bp = muO ws.length o) := Lib.hid (by rw [← hlen]; exact muW_row hrow hok)
      clear hrow hrng hpart hok ha hrj hrj' h2 hlen hl2
      go_wp2_with (first
        | (go_at_call 11; (with_reducible refine (bdone_op HROW.out).mono ?_); rw [HD.out]; rintro e wx ⟨rfl, rfl⟩)
        | (go_at_call 9; (with_reducible refine (bstep_op HRNG.out HROW.out HOK.out).mono ?_); rintro e w2 ⟨rfl, hS, hR, hP⟩; have HS2 := Lib.hid hS; have HR2 := Lib.hid hR; have HP2 := Lib.hid hP; clear hS hR hP))
      go_roundw
      case rel => exact ⟨_, _, _, HL2.out, HOK2.out, HAL.out, HRJ.out, HR2.out, HS2.out, Part.trans (S' := [bw, bp]) HPART.out HP2.out (fun _ _ hm => hm)⟩
      case measure => rw [muW_row HR2.out (by have := HOK2.out; rwa [HL2.out] at this), HM0.out]; exact HMU.out
end Go.Proofs.YteoekkhgpdhnhaaDoor
