/- FOR 'TopTaken': the operations under way, once none is begun any more; an operation alone ends within six actions. -/
import Derived.Test.YteoekkhgpdhnhaaDoorBu
import Derived.Test.YteoekkhgpdhnhaaDoorBr
import Derived.Test.YteoekkhgpdhnhaaDoorZb
namespace Go.Proofs.YteoekkhgpdhnhaaDoor
open Go Go.RowKit
set_option maxRecDepth 100000
set_option maxHeartbeats 1600000
theorem AloneB.next {ba : Int} {ws : List Int} {o : OpB} (ho : OkB ws.length o) (h9 : ¬ o.ph = 9) : AloneB (stepBW ba ws o) (stepB ba ws o) := by
  obtain ⟨k, wk, ph, saw, hand, c, sum, ans⟩ := o
  unfold AloneB
  dsimp only at h9
  intro hk
  rcases ho with ⟨a, b, hh⟩ | ⟨a, b, hh⟩ | ⟨a, b, hh⟩
  · dsimp only at a b hh
    subst a
    rcases hh with hh | rfl | ⟨rfl, hz, hu⟩ | rfl | ⟨rfl, hz, hu⟩ | rfl
    · exact absurd hh h9
    · by_cases h : 0 < ws.getD (wk + 1) 0
      · rw [show stepB ba ws ⟨1, wk, 0, saw, hand, c, sum, ans⟩ = ⟨1, wk, 1, ws.getD (wk + 1) 0, hand, c, sum, ans⟩ by unfold stepB; rw [if_neg (by simp), if_pos rfl, if_pos rfl, if_pos h]]; simp [stepBW]
      · rw [show stepB ba ws ⟨1, wk, 0, saw, hand, c, sum, ans⟩ = ⟨1, wk, 2, saw, hand, c, sum, ans⟩ by unfold stepB; rw [if_neg (by simp), if_pos rfl, if_pos rfl, if_neg h]]; simp [stepBW]
    · by_cases h : ws.getD (wk + 1) 0 = saw
      · simp only [List.getD_eq_getElem?_getD] at h; simp [stepB, stepBW, h]
      · simp only [List.getD_eq_getElem?_getD] at h; simp [stepB, stepBW, h]
    · by_cases h : 0 < ws.getD 0 0
      · rw [show stepB ba ws ⟨1, wk, 2, saw, hand, c, sum, ans⟩ = ⟨1, wk, 3, ws.getD 0 0, hand, c, sum, ans⟩ by unfold stepB; rw [if_neg (by simp), if_pos rfl, if_neg (by simp), if_neg (by simp), if_pos rfl, if_pos h]]; simp [stepBW]
      · rw [show stepB ba ws ⟨1, wk, 2, saw, hand, c, sum, ans⟩ = ⟨1, wk, 9, saw, hand, c, sum, 0⟩ by unfold stepB; rw [if_neg (by simp), if_pos rfl, if_neg (by simp), if_neg (by simp), if_pos rfl, if_neg h]]; simp [stepBW]
    · by_cases h : ws.getD 0 0 = saw
      · by_cases h1 : min ba saw = 1
        · simp only [List.getD_eq_getElem?_getD] at h; simp [stepB, stepBW, h, h1]
        · simp only [List.getD_eq_getElem?_getD] at h; simp [stepB, stepBW, h, h1]
      · simp only [List.getD_eq_getElem?_getD] at h; simp [stepB, stepBW, h]
    · simp [stepB, stepBW]
  · dsimp only at a; subst a
    unfold stepB at hk
    repeat' split at hk
    all_goals simp_all
  · dsimp only at a; subst a
    unfold stepB at hk
    repeat' split at hk
    all_goals simp_all
theorem muO_few {n : Nat} {o : OpB} (hk : o.k = 1 ∨ o.k = 2) : muO n o ≤ 5 := by
  unfold muO
  rcases hk with h | h
  all_goals
    simp [h]
    repeat' split
  all_goals omega
theorem muO_live {n : Nat} {o : OpB} (hk : o.k = 1 ∨ o.k = 2) (h9 : ¬ o.ph = 9) : 1 ≤ muO n o := by
  unfold muO
  rcases hk with h | h
  all_goals
    simp [h, h9]
    repeat' split
  all_goals omega
/-- what an operation that has just ended answers -/
theorem ans_end {ba : Int} {ws : List Int} {o : OpB} (ho : OkB ws.length o) (hn9 : ¬ o.ph = 9) (hok : HandOk o) (hu : ∀ x ∈ ws, U64 x) (hb : 1 ≤ ba) (hk : o.k = 1 ∨ o.k = 2) (hh : handC o ≤ 1099511627776) (h9 : (stepB ba ws o).ph = 9) :
    0 ≤ (stepB ba ws o).ans ∧ (stepB ba ws o).ans ≤ 1099511627776 ∧ takenC (stepB ba ws o) = (if o.k = 1 then (stepB ba ws o).ans else 0) := by
  have hst := HandOk.step ho hn9 hok hu hb
  have hsk := (stepB_same ba ws o).1
  rcases hk with hk | hk
  · rcases hst.2.2 (hsk.trans hk) h9 with e | e
    · refine ⟨by omega, by omega, ?_⟩
      rw [if_pos hk]; unfold takenC; rw [if_pos (hsk.trans hk), if_pos h9]
    · refine ⟨by omega, by omega, ?_⟩
      rw [if_pos hk]; unfold takenC; rw [if_pos (hsk.trans hk), if_pos h9]
  · have et : takenC (stepB ba ws o) = (if o.k = 1 then (stepB ba ws o).ans else 0) := by
      unfold takenC
      rw [if_neg (by rw [hsk, hk]; decide), if_neg (by rw [hk]; decide)]
    have h2 := hok.2.1 hk
    obtain ⟨k, wk, ph, saw, hand, c, sum, ans⟩ := o
    dsimp only at hk hn9 h2
    subst hk
    rw [et]
    rcases ho with ⟨a, _⟩ | ⟨_, b, hp⟩ | ⟨a, _⟩
    · simp at a
    · dsimp only at b hp
      rcases hp with hp | rfl | rfl
      · exact absurd hp hn9
      · by_cases e : 0 < ws.getD (wk + 1) 0
        · simp only [List.getD_eq_getElem?_getD] at e
          simp [stepB, e] at h9
        · simp only [List.getD_eq_getElem?_getD] at e
          simp [stepB, e]
      · have e : (stepB ba ws ⟨2, wk, 1, saw, hand, c, sum, ans⟩).ans = IntKind.i64.wrap hand := by simp [stepB]
        have hp := h2 rfl
        simp only [handC] at hh
        simp at hh
        rw [e, IntKind.wrap_i64]
        simp
        omega
    · simp at a
/-- an operation under way, of worker i -/
structure MineN (wr : World) (lo bq n i : Nat) (t : Option Bool) (p : Nat × OpB) : Prop where
  row : Row wr p.1 97 (rowB bq p.2)
  ok : OkB (n + 1) p.2
  lo : lo ≤ p.1
  tk : t = some (p.2.k == 1)
  kk : p.2.k = 1 ∨ p.2.k = 2
  live : ¬ p.2.ph = 9
  hand : HandOk p.2
/-- as EarlyB, but the list of addresses is as it was -/
structure EarlyN (W : World) (bq bk bw : Nat) (ba : Int) (n : Nat) (ws : List Int) (ss : List (Option (Nat × OpB))) (tb : List Bool) (gn gt : Nat) (vs : List Value) (T limit : Int) (wr : World) : Prop where
  one : OneB W bq bk bw ba n ws wr
  now : Row wr gn 30 vs
  tks : Row wr gt 4 (tb.map Value.bool)
  slen : ss.length = n
  tlen : tb.length = n
  op : ∀ (i : Nat) (p : Nat × OpB), ss[i]? = some (some p) → MineN wr W.heap.size bq n i tb[i]? p
  apart : ∀ (i j : Nat) (p q : Nat × OpB), ss[i]? = some (some p) → ss[j]? = some (some q) → p.1 = q.1 → i = j
  sum : ws.sum + (ss.map handS).sum + T = limit
  pos : 0 ≤ T
  lim : limit ≤ 1099511627776
theorem MineN.on {wr w1 : World} {lo bq n i : Nat} {t : Option Bool} {p : Nat × OpB} {S : List Nat} (h : MineN wr lo bq n i t p) (hp : Part S wr w1) (hS : p.1 ∉ S) : MineN w1 lo bq n i t p := ⟨h.row.part hp hS, h.ok, h.lo, h.tk, h.kk, h.live, h.hand⟩
section
variable {W wr w1 w5 : World} {bq bk bw n gn gt : Nat} {ba T limit : Int} {ws : List Int} {ss : List (Option (Nat × OpB))} {tb : List Bool} {vs : List Value}
theorem EarlyB.toN (h : EarlyB W bq bk bw ba n ws ss tb gn gt T limit wr) : EarlyN W bq bk bw ba n ws ss tb gn gt (ss.map ptrS) T limit wr :=
  ⟨h.one, h.now, h.tks, h.slen, h.tlen, fun i p hp => ⟨(h.op i p hp).row, (h.op i p hp).ok, (h.op i p hp).lo, (h.op i p hp).tk, (h.op i p hp).kk, (h.op i p hp).live, (h.op i p hp).hand⟩, h.apart, h.sum, h.pos, h.lim⟩
theorem EarlyN.on (h : EarlyN W bq bk bw ba n ws ss tb gn gt vs T limit wr) (hb : Below wr.heap.size wr w1) : EarlyN W bq bk bw ba n ws ss tb gn gt vs T limit w1 :=
  ⟨h.one.on hb, h.now.below hb h.now.lt, h.tks.below hb h.tks.lt, h.slen, h.tlen, fun i p hp => (h.op i p hp).on (Part.of_below hb (Nat.le_refl _) []) (by simp), h.apart, h.sum, h.pos, h.lim⟩
theorem EarlyN.hands (h : EarlyN W bq bk bw ba n ws ss tb gn gt vs T limit wr) : ∀ x ∈ ss.map handS, 0 ≤ x := fun x hx => by
  obtain ⟨s, hs, rfl⟩ := List.mem_map.1 hx
  obtain ⟨i, hi⟩ := List.getElem?_of_mem hs
  cases s with
  | none => exact Int.le_refl _
  | some p => exact handC_pos (h.op i p hi).hand
theorem EarlyN.bounds (h : EarlyN W bq bk bw ba n ws ss tb gn gt vs T limit wr) : 0 ≤ ws.sum ∧ 0 ≤ (ss.map handS).sum ∧ T ≤ limit := by
  have h1 := sum_pos (fun x hx => (h.one.quo.words.ok x hx).1)
  have h2 := sum_pos h.hands
  have h3 := h.sum
  omega
/-- an operation is stepped -/
theorem EarlyN.step {i b : Nat} {o : OpB} {e : Ending} (h : EarlyN W bq bk bw ba n ws ss tb gn gt vs T limit wr) (hi : ss[i]? = some (some (b, o))) (hs : SteppedO wr bq bk bw b ba ws o e w5) :
    EarlyN W bq bk bw ba n (stepBW ba ws o) (ss.set i (goesOn b (stepB ba ws o))) tb gn gt vs (T + takenC (stepB ba ws o)) limit w5 := by
  obtain ⟨_, hq5, hr5, hp5⟩ := hs
  have hm := h.op i _ hi
  have hok1 : OkB ws.length o := by rw [h.one.len]; exact hm.ok
  have hu := h.one.quo.words.ok
  have hba := h.one.quo.lowb
  have hbd := h.bounds
  have hsm := h.sum
  have hps := h.pos
  have hlm := h.lim
  have g1 : (ss.map handS)[i]? = some (handC o) := by rw [List.getElem?_map, hi]; rfl
  have hle := le_sum0 h.hands g1
  have e0 : takenC o = 0 := by unfold takenC; split <;> simp [hm.live]
  have hst := step_sum hok1 hm.live hm.hand hu (by omega) hba
  have hho' := HandOk.step hok1 hm.live hm.hand hu hba
  have hok' : OkB (n + 1) (stepB ba ws o) := by
    have := hok1.step (ba := ba) hu h.one.quo.least
    rwa [h.one.len] at this
  have nm : ∀ {x : Nat} {t : TypeId} {l : List Value}, Row wr x t l → t ≠ 146 → t ≠ 97 → x ∉ [bw, b] := fun hr h1 h2 => by simp; exact ⟨hr.ne h.one.quo.words.row h1, hr.ne hm.row h2⟩
  have hlow5 : Below W.heap.size W w5 := h.one.low.trans (hp5.below h.one.low.size (fun q hq => by have h1 := h.one.lo; have h2 := hm.lo; simp at hq h2; omega))
  obtain ⟨k1, k2⟩ := stepB_same ba ws o
  refine ⟨⟨hq5, (stepBW_length _ _ _).trans h.one.len, h.one.lo, hlow5⟩, h.now.part hp5 (nm h.now (by decide) (by decide)), h.tks.part hp5 (nm h.tks (by decide) (by decide)), by rw [List.length_set]; exact h.slen, h.tlen, fun j p hp => ?_, fun a c p q hp hq e => ?_, ?_, ?_, h.lim⟩
  · by_cases e : j = i
    · subst e
      rw [List.getElem?_set_self (lt_of_get hi)] at hp
      unfold goesOn at hp
      split at hp
      · cases hp
      · rename_i h9
        cases hp
        refine ⟨hr5, hok', hm.lo, by rw [hm.tk]; dsimp only; rw [k1], by dsimp only; rw [k1]; exact hm.kk, h9, hho'⟩
    · rw [List.getElem?_set_ne (fun e' => e e'.symm)] at hp
      have hmj := h.op j p hp
      have hne : p.1 ≠ b := fun e' => e (h.apart j i p (b, o) hp hi e')
      exact hmj.on hp5 (by simp; exact ⟨hmj.row.ne h.one.quo.words.row (by decide), hne⟩)
  · have same : ∀ (a : Nat) (p : Nat × OpB), (ss.set i (goesOn b (stepB ba ws o)))[a]? = some (some p) → ∃ p', ss[a]? = some (some p') ∧ p'.1 = p.1 := fun a p hp => by
      by_cases ea : a = i
      · subst ea
        rw [List.getElem?_set_self (lt_of_get hi)] at hp
        unfold goesOn at hp
        split at hp
        · cases hp
        · cases hp; exact ⟨_, hi, rfl⟩
      · rw [List.getElem?_set_ne (fun e' => ea e'.symm)] at hp
        exact ⟨p, hp, rfl⟩
    obtain ⟨p', hp', e1⟩ := same a p hp
    obtain ⟨q', hq', e2⟩ := same c q hq
    exact h.apart a c p' q' hp' hq' (by rw [e1, e2]; exact e)
  · rw [List.map_set, sum_set g1, handS_goes]
    omega
  · have := (takenC_pos hho').1
    omega
/-- a worker's operation, driven to its end: it goes on, or has ended -/
def DriveT (W : World) (bq bk bw : Nat) (ba : Int) (n : Nat) (ss : List (Option (Nat × OpB))) (tb : List Bool) (gn gt : Nat) (vs : List Value) (T limit : Int) (i b : Nat) (kb : Bool) (m : Nat) (wr : World) : Prop :=
  (∃ ws o, EarlyN W bq bk bw ba n ws (ss.set i (some (b, o))) tb gn gt vs T limit wr ∧ (o.k == 1) = kb ∧ (m = 0 ∨ (AloneB ws o ∧ muO ws.length o + m ≤ 6))) ∨
  (∃ ws o, EarlyN W bq bk bw ba n ws (ss.set i none) tb gn gt vs (T + (if kb = true then o.ans else 0)) limit wr ∧ (o.k == 1) = kb ∧ o.ph = 9 ∧ Row wr b 97 (rowB bq o) ∧ 0 ≤ o.ans ∧ m ≤ 6)
theorem set_set_same {α : Type} (l : List α) (i : Nat) (a b : α) : (l.set i a).set i b = l.set i b := by simp
theorem DriveT.step {i b m : Nat} {kb : Bool} {o : OpB} {e : Ending} (hi : i < ss.length) (h : EarlyN W bq bk bw ba n ws (ss.set i (some (b, o))) tb gn gt vs T limit wr) (hk : (o.k == 1) = kb) (hm : m = 0 ∨ (AloneB ws o ∧ muO ws.length o + m ≤ 6)) (hs : SteppedO wr bq bk bw b ba ws o e w5) :
    DriveT W bq bk bw ba n ss tb gn gt vs T limit i b kb (m + 1) w5 := by
  have hii : (ss.set i (some (b, o)))[i]? = some (some (b, o)) := List.getElem?_set_self hi
  have hmn := h.op i _ hii
  have hok1 : OkB ws.length o := by rw [h.one.len]; exact hmn.ok
  have h5 := h.step hii hs
  rw [set_set_same] at h5
  have hks := (stepB_same ba ws o).1
  have hlive : 1 ≤ muO ws.length o := muO_live hmn.kk hmn.live
  have hle := le_sum0 h.hands (show ((ss.set i (some (b, o))).map handS)[i]? = some (handC o) by rw [List.getElem?_map, hii]; rfl)
  have hsm := h.sum
  have hbd := h.bounds
  have hps := h.pos
  have hlm := h.lim
  by_cases h9 : (stepB ba ws o).ph = 9
  · right
    obtain ⟨a1, a2, a3⟩ := ans_end hok1 hmn.live hmn.hand h.one.quo.words.ok h.one.quo.lowb hmn.kk (by omega) h9
    refine ⟨stepBW ba ws o, stepB ba ws o, ?_, by rw [hks]; exact hk, h9, hs.2.2.1, a1, by rcases hm with rfl | ⟨_, hm⟩ <;> omega⟩
    unfold goesOn at h5
    rw [if_pos h9, a3] at h5
    have e : (if kb = true then (stepB ba ws o).ans else 0) = (if o.k = 1 then (stepB ba ws o).ans else 0) := by
      subst hk
      by_cases e : o.k = 1 <;> simp [e]
    rw [e]
    exact h5
  · left
    have et : takenC (stepB ba ws o) = 0 := by unfold takenC; split <;> simp [h9]
    unfold goesOn at h5
    rw [if_neg h9, et, Int.add_zero] at h5
    refine ⟨stepBW ba ws o, stepB ba ws o, h5, by rw [hks]; exact hk, .inr ⟨AloneB.next hok1 hmn.live, ?_⟩⟩
    rcases hm with rfl | ⟨ha, hm⟩
    · have := muO_few (n := (stepBW ba ws o).length) (o := stepB ba ws o) (by rw [hks]; exact hmn.kk)
      omega
    · have := muO_step ha hok1 hmn.live (ba := ba)
      rw [stepBW_length]
      omega
end
end Go.Proofs.YteoekkhgpdhnhaaDoor
