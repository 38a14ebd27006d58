/- THE WALKS of package ring: do, Add, Sum. -/
import Derived.Test.YtjehcgeodcpcaaaKi
namespace Go.Proofs.Ytjehcgeodcpcaaa
open Go Go.RowKit

/-- so many steps of an operation that is alone -/
def runN : Nat → List Int × OpN → List Int × OpN
  | 0, s => s
  | m + 1, s => runN m (stepNW s.1 s.2, stepN s.1 s.2)
/-- what it has loaded lies there yet -/
def AloneN (ws : List Int) (o : OpN) : Prop := o.ph = 1 → cellN ws o.cur = o.saw
def muO (o : OpN) : Nat := if o.ph = 0 then (if o.k = 1 then 2 else o.q - o.cur + 1) else if o.ph = 1 then 1 else 0
theorem AloneN.step {ws : List Int} {o : OpN} (_h : AloneN ws o) : AloneN (stepNW ws o) (stepN ws o) := by
  intro h1
  unfold stepN at h1 ⊢
  unfold stepNW
  split at h1
  · rename_i p0
    rw [if_neg (by omega)]
    rw [if_pos p0] at ⊢
    split at h1
    · rename_i k1
      rw [if_pos k1]
      split at h1
      · simp at h1
      · rename_i a
        rw [if_neg a]
        split at h1
        · simp at h1
        · rename_i b
          rw [if_neg b]
    · split at h1
      · simp at h1
      · simp at h1; omega
  · split at h1
    · rename_i p1
      split at h1
      · simp at h1
      · simp at h1
    · rename_i a b
      exact absurd h1 b
theorem muO_step {ws : List Int} {o : OpN} (ha : AloneN ws o) (ho : OkN o) (h2 : o.ph ≠ 2) : muO (stepN ws o) < muO o := by
  obtain ⟨h1, h3, h4, h5, h6, h7, h8, h9⟩ := ho
  unfold stepN
  split
  · rename_i p0
    split
    · rename_i k1
      split
      · simp [muO, p0, k1]
      · split
        · simp [muO, p0, k1]
        · simp [muO, p0, k1]
    · rename_i k1
      split
      · simp [muO, p0, k1]
      · simp [muO, p0, k1]; omega
  · split
    · rename_i p1
      rw [if_pos (ha p1)]
      simp [muO, p1]
    · omega
theorem runN_over {ws : List Int} {o : OpN} (h : o.ph = 2) (m : Nat) : runN m (ws, o) = (ws, o) := by
  have e1 : stepNW ws o = ws := by unfold stepNW; rw [if_neg (by omega)]
  have e2 : stepN ws o = o := by unfold stepN; rw [if_neg (by omega), if_neg (by omega)]
  induction m with
  | zero => rfl
  | succ m ih => unfold runN; rw [e1, e2]; exact ih
/-- an operation alone ends -/
theorem runN_ends {ws : List Int} {o : OpN} (ha : AloneN ws o) (ho : OkN o) (hw : ∀ t, U64 (cellN ws t)) (m : Nat) (hm : muO o ≤ m) : (runN m (ws, o)).2.ph = 2 := by
  induction m generalizing ws o with
  | zero =>
    have h6 := ho.ph
    show o.ph = 2
    unfold muO at hm
    split at hm
    · split at hm <;> omega
    · split at hm <;> omega
  | succ m ih =>
    by_cases h2 : o.ph = 2
    · rw [runN_over h2]; exact h2
    · unfold runN
      have hl := muO_step ha ho h2
      have hw' : ∀ t, U64 (cellN (stepNW ws o) t) := by
        intro t
        unfold stepNW
        split
        · rename_i e
          unfold cellN
          rw [List.getD_eq_getElem?_getD, List.getElem?_set]
          split
          · split
            · exact (ho.one e.1).2
            · exact U64.zero
          · have := hw t
            unfold cellN at this
            rw [List.getD_eq_getElem?_getD] at this
            simpa using this
        · exact hw t
      exact ih ha.step (ho.step hw) hw' (show muO (stepN ws o) ≤ m by omega)
/-- how far an operation is from its end, by its cells -/
def muW (w : World) (bp : Nat) : Nat :=
  match w.cell? ⟨bp, 6, none⟩, w.cell? ⟨bp, 1, none⟩, w.cell? ⟨bp, 2, none⟩ with
  | some (.func (.func f) _ _), some (.int _ c), some (.int _ l) => if f = 39 then 1 else if f = 27 then 2 else (l - c).toNat + 1
  | _, _, _ => 0
theorem muW_row {w : World} {bp br : Nat} {o : OpN} (h : Row w bp 77 (opNL br o)) (h2 : o.ph ≤ 2) (h3 : o.cur ≤ o.q) : muW w bp = muO o := by
  obtain ⟨k, q, n, ph, cur, saw, put, ans, why⟩ := o
  dsimp only at h2 h3
  have e6 : w.cell? ⟨bp, 6, none⟩ = some (nxN ⟨k, q, n, ph, cur, saw, put, ans, why⟩) := h.cell 6
  have e1 : w.cell? ⟨bp, 1, none⟩ = some (.int .i64 (cur : Int)) := h.cell 1
  have e2 : w.cell? ⟨bp, 2, none⟩ = some (.int .i64 (q : Int)) := h.cell 2
  unfold muW
  rw [e6, e1, e2]
  match ph, h2 with
  | 0, _ =>
    by_cases k1 : k = 1
    · simp [nxN, muO, k1, fnV]
    · simp [nxN, muO, k1, fnV]
  | 1, _ => simp [nxN, muO, fnV]
  | 2, _ => simp [nxN, muO]
/-- what a whole operation leaves -/
def WholeN (w : World) (br bk bw : Nat) (wd : Int) (ws : List Int) (v : Value) (e : Ending) (w' : World) : Prop := e = .returned v ∧ Rng w' br bk bw wd ws ∧ Part [bw] w w'
theorem ndo_no {w : World} {br bk bw : Nat} {wd : Int} {ws : List Int} {k t n v : Int} (h : Rng w br bk bw wd ws) (ht : t ≤ 9223372036854775807) (hn : U64 n) (he : checkE wd k t n = v) (hv : v ≠ 0) :
    Calls Try.prog 32 #[.pointer (some ⟨br, 0, none⟩), .agg #[.int .u8 k, .int .i64 t, .int .u64 n]] w fun e w' => e = .returned (.tuple #[.int .u64 0, .int .i64 v]) ∧ Below w.heap.size w w' := by
  have H := Lib.hid h
  have HN := Lib.hid hn
  have HE := Lib.hid he
  have HT := Lib.hid ht
  have HV := Lib.hid hv
  have dv : (v != 0) = true := by simpa using hv
  clear h hn he ht hv
  go_enter Try.func32, Try.ntmps32
  go_wp2_with (go_at_call 10; refine (nstart_no (H.out.alloc _) HT.out HN.out HE.out HV.out).mono ?_; rintro e w1 ⟨rfl, hb⟩; have HB := Lib.hid hb; clear hb)
  go_ret2
  exact ⟨rfl, ((((Part.refl [] w).alloc _).on HB.out).end_)⟩
theorem doneN_part {w w1 wr : World} {bw bp nn : Nat} {o : Obj} (hb : Below (w.alloc o).heap.size (w.alloc o) w1) (hn : (w.alloc o).heap.size ≤ bp) (hP : Part [bw, bp] w1 wr) : Part [bw] w (wr.drewN nn) := by
  refine Part.drewN ?_ _
  refine Part.trans (S' := [bw, bp]) (((Part.refl [bw] w).alloc o).on hb) hP (fun q hq hm => ?_)
  simp at hn hm ⊢
  omega
theorem ndo_op {w : World} {br bk bw : Nat} {wd : Int} {ws wsE : List Int} {k t n : Int} {q m : Nat} {oE : OpN} (h : Rng w br bk bw wd ws) (ht : t ≤ 9223372036854775807) (hf : FineN wd k t n q) (hr : runN m (ws, newN ws.length k q n) = (wsE, oE)) (hE : oE.ph = 2) :
    Calls Try.prog 32 #[.pointer (some ⟨br, 0, none⟩), .agg #[.int .u8 k, .int .i64 t, .int .u64 n]] w (WholeN w br bk bw wd wsE (.tuple #[.int .u64 oE.ans, .int .i64 oE.why])) := by
  have H := Lib.hid h
  have HF := Lib.hid hf
  have HT := Lib.hid ht
  have HR := Lib.hid hr
  have HE := Lib.hid hE
  have g1 := h.head.lt
  have g2 := h.words.head.lt
  have g3 := h.words.row.lt
  have HK1 : Hid (OkN (newN ws.length k q n)) := Lib.hid (OkN.new hf.right h.pos h.top)
  clear h ht hf hr hE
  go_enter Try.func32, Try.ntmps32
  go_wp2_with (go_at_call 10; refine (nstart_op (H.out.alloc _) HT.out HF.out).mono ?_; rintro e w1 ⟨bp, rfl, hn, hr1, hb⟩; have HB1 := Lib.hid hb; have HR1 := Lib.hid hr1; have HN1 := Lib.hid hn; have HS1 := Lib.hid ((H.out.alloc _).on hb); clear hb hr1 hn)
  go_loopw [] (fun wr => ∃ o wsx j, OkN o ∧ AloneN wsx o ∧ runN j (wsx, o) = (wsE, oE) ∧ Row wr bp 77 (opNL br o) ∧ Rng wr br bk bw wd wsx ∧ Part [bw, bp] w1 wr) (fun wr => muW wr bp)
  case atStart => exact ⟨_, _, _, HK1.out, fun e => absurd e (by simp [newN]), HR.out, HR1.out, HS1.out, Part.refl _ _⟩
  case round =>
    obtain ⟨o, wsx, j, hok, ha, hrj, hrow, hrng, hpart⟩ := hrel
    have HROW := Lib.hid hrow
    have HRNG := Lib.hid hrng
    have HPART := Lib.hid hpart
    have HOK := Lib.hid hok
    by_cases h2 : o.ph = 2
    · rw [runN_over h2] at hrj
      obtain ⟨rfl, rfl⟩ : wsx = wsE ∧ o = oE := ⟨congrArg Prod.fst hrj, congrArg Prod.snd hrj⟩
      have HD : Hid (decide (o.ph = 2) = true) := Lib.hid (by rw [h2]; rfl)
      have HA : Hid (answerN o = .tuple #[.int .u64 o.ans, .int .i64 o.why]) := Lib.hid (if_pos h2)
      clear hrow hrng hpart hok ha hrj h2
      go_wp2_with (first
        | (go_at_call 16; (with_reducible refine (ndone_op HROW.out HOK.out.ph).mono ?_); rw [HD.out]; rintro e wx ⟨rfl, rfl⟩)
        | (go_at_call 14; (with_reducible refine (nanswer_op HROW.out HOK.out.ph).mono ?_); rw [HA.out]; rintro e wx ⟨rfl, na, rfl⟩))
      go_ret2
      exact ⟨rfl, HRNG.out.drewN _, doneN_part HB1.out HN1.out HPART.out⟩
    · have HD : Hid (decide (o.ph = 2) = false) := Lib.hid (by simpa using h2)
      obtain ⟨j', rfl⟩ : ∃ j', j = j' + 1 := by
        cases j with
        | zero =>
          obtain rfl : o = oE := congrArg Prod.snd hrj
          exact absurd HE.out h2
        | succ j' => exact ⟨j', rfl⟩
      have hrj' : runN j' (stepNW wsx o, stepN wsx o) = (wsE, oE) := hrj
      have HRJ := Lib.hid hrj'
      have HAL := Lib.hid ha
      have HMU : Hid (muO (stepN wsx o) < muO o) := Lib.hid (muO_step ha hok h2)
      have HOK2 : Hid (OkN (stepN wsx o)) := Lib.hid (hok.step (hrng.words.cell64 hrng.pos))
      have HM0 : Hid (muW wr bp = muO o) := Lib.hid (muW_row hrow hok.ph hok.cur)
      clear hrow hrng hpart hok ha hrj hrj' h2
      go_wp2_with (first
        | (go_at_call 16; (with_reducible refine (ndone_op HROW.out HOK.out.ph).mono ?_); rw [HD.out]; rintro e wx ⟨rfl, rfl⟩)
        | (go_at_call 13; (with_reducible refine (nstep_op HRNG.out HROW.out HOK.out).mono ?_); rintro e w2 ⟨rfl, hS, hR, hP⟩; have HS2 := Lib.hid hS; have HR2 := Lib.hid hR; have HP2 := Lib.hid hP; clear hS hR hP))
      go_roundw
      case rel => exact ⟨_, _, _, HOK2.out, HAL.out.step, HRJ.out, HR2.out, HS2.out, Part.trans (S' := [bw, bp]) HPART.out HP2.out (fun _ _ hm => hm)⟩
      case measure => rw [muW_row HR2.out HOK2.out.ph HOK2.out.cur, HM0.out]; exact HMU.out
end Go.Proofs.Ytjehcgeodcpcaaa
