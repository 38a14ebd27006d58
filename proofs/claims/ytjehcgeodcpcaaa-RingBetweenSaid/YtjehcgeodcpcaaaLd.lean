/- A CROWD OF ADDS WITHIN ONE WINDOW: what the cells count is what has ended. -/
import Derived.Test.YtjehcgeodcpcaaaLa
namespace Go.Proofs.Ytjehcgeodcpcaaa
open Go Go.RowKit

theorem sum_map_set (f : OpN → Int) {os : List OpN} : ∀ {i : Nat} {o o' : OpN}, os[i]? = some o → ((os.set i o').map f).sum = (os.map f).sum - f o + f o' := by
  induction os with
  | nil => intro i o o' h; simp at h
  | cons a os ih =>
    intro i o o' h
    cases i with
    | zero => simp at h; subst h; simp; omega
    | succ i =>
      simp at h
      have := ih (o' := o') h
      simp only [List.set_cons_succ, List.map_cons, List.sum_cons, this]
      omega
theorem sum_map_le (f g : OpN → Int) {os : List OpN} : (∀ o ∈ os, f o ≤ g o) → (os.map f).sum ≤ (os.map g).sum := by
  induction os with
  | nil => intro _; simp
  | cons a os ih =>
    intro h
    have h1 := h a (by simp)
    have h2 := ih fun o ho => h o (by simp [ho])
    simp only [List.map_cons, List.sum_cons]
    omega
theorem sum_map_one (f g : OpN → Int) {os : List OpN} : ∀ {i : Nat} {o : OpN}, (∀ o ∈ os, f o ≤ g o) → os[i]? = some o → (os.map f).sum + (g o - f o) ≤ (os.map g).sum := by
  induction os with
  | nil => intro i o _ h; simp at h
  | cons a os ih =>
    intro i o hle h
    cases i with
    | zero =>
      simp at h
      subst h
      have := sum_map_le f g (os := os) fun o ho => hle o (by simp [ho])
      simp only [List.map_cons, List.sum_cons]
      omega
    | succ i =>
      simp at h
      have h1 := hle a (by simp)
      have h2 := ih (fun o ho => hle o (by simp [ho])) h
      simp only [List.map_cons, List.sum_cons]
      omega
/-- what has ended of a tick -/
def endT (t : Nat) (o : OpN) : Int := if o.q = t ∧ o.ph = 2 then o.n else 0
def endedN (os : List OpN) (t : Nat) : Int := (os.map (endT t)).sum
def totN (os : List OpN) : Int := (os.map (·.n)).sum
/-- adds within the window of tick Q -/
structure StillN (Q : Nat) (ws : List Int) (os : List OpN) : Prop where
  pos : 0 < ws.length
  ok : ∀ o ∈ os, OkN o ∧ o.k = 1 ∧ Q + 1 - ws.length ≤ o.q ∧ o.q ≤ Q
  two : ∀ o ∈ os, o.ph = 2 → o.why = 0
  one : ∀ o ∈ os, o.ph = 1 → cntN o.saw (o.q : Int) + o.n ≤ 4294967295 ∧ o.put = wordN (o.q : Int) (cntN o.saw (o.q : Int) + o.n)
  tot : totN os ≤ 4294967295
  cnt : ∀ t, Q + 1 - ws.length ≤ t → t ≤ Q → cntN (cellN ws t) (t : Int) = endedN os t ∧ cellN ws t / 4294967296 ≤ (t : Int)
  u64 : ∀ u ∈ ws, U64 u
theorem cellN_set_ne {ws : List Int} {q t : Nat} {v : Int} (h : q % ws.length ≠ t % ws.length) : cellN (ws.set (q % ws.length) v) t = cellN ws t := by
  unfold cellN
  rw [List.length_set, List.getD_eq_getElem?_getD, List.getElem?_set_ne h, List.getD_eq_getElem?_getD]
theorem cellN_set_eq {ws : List Int} {q : Nat} {v : Int} (h : 0 < ws.length) : cellN (ws.set (q % ws.length) v) q = v := by
  unfold cellN
  rw [List.length_set, List.getD_eq_getElem?_getD, List.getElem?_set_self (Nat.mod_lt _ h)]
  rfl
theorem mod_ne {n q t Q : Nat} (hn : 0 < n) (h1 : Q + 1 - n ≤ q) (h2 : q ≤ Q) (h3 : Q + 1 - n ≤ t) (h4 : t ≤ Q) (hne : q ≠ t) : q % n ≠ t % n := by
  intro e
  have hq := Nat.div_add_mod q n
  have ht := Nat.div_add_mod t n
  rcases Nat.lt_trichotomy (q / n) (t / n) with h | h | h
  · have : n * (q / n + 1) ≤ n * (t / n) := Nat.mul_le_mul_left n h
    rw [Nat.mul_add] at this
    omega
  · rw [h, e] at hq; omega
  · have : n * (t / n + 1) ≤ n * (q / n) := Nat.mul_le_mul_left n h
    rw [Nat.mul_add] at this
    omega
theorem mem_set {α : Type} {l : List α} {i : Nat} {a x : α} (h : x ∈ l.set i a) : x ∈ l ∨ x = a := List.mem_or_eq_of_mem_set h
theorem endT_le (t : Nat) {os : List OpN} (h : ∀ o ∈ os, 0 ≤ o.n) : ∀ o ∈ os, endT t o ≤ o.n := by
  intro o ho
  have := h o ho
  unfold endT
  split <;> omega
/-- a step of one of them -/
theorem StillN.step {Q : Nat} {ws : List Int} {os : List OpN} {i : Nat} {o : OpN} (h : StillN Q ws os) (ho : os[i]? = some o) : StillN Q (stepNW ws o) (os.set i (stepN ws o)) := by
  have hmem := List.mem_of_getElem? ho
  obtain ⟨hok, hk, hq1, hq2⟩ := h.ok o hmem
  have hcur := hok.add hk
  have hc64 : ∀ t, U64 (cellN ws t) := fun t => h.u64 _ (List.mem_of_getElem? (cellN_get h.pos t))
  have hok' := hok.step hc64 (ws := ws)
  have hsm := stepN_same ws o
  have hn0 : ∀ o ∈ os, 0 ≤ o.n := fun o ho => (h.ok o ho).1.num.1
  have htot : totN (os.set i (stepN ws o)) = totN os := by
    have := sum_map_set (·.n) (o' := stepN ws o) ho
    unfold totN
    rw [this, hsm.2.1]
    omega
  have hln : (stepNW ws o).length = ws.length := stepNW_len _ _
  have hend : ∀ t, endedN (os.set i (stepN ws o)) t = endedN os t - endT t o + endT t (stepN ws o) := fun t => sum_map_set (endT t) ho
  -- how it steps
  have hcase : (o.ph = 0 ∧ stepNW ws o = ws ∧ (stepN ws o).ph = 1 ∧ (stepN ws o).saw = cellN ws o.q ∧ (stepN ws o).put = wordN (o.q : Int) (cntN (cellN ws o.q) (o.q : Int) + o.n) ∧ cntN (cellN ws o.q) (o.q : Int) + o.n ≤ 4294967295) ∨ (o.ph = 1 ∧ cellN ws o.q = o.saw ∧ stepNW ws o = ws.set (o.q % ws.length) o.put ∧ (stepN ws o).ph = 2 ∧ (stepN ws o).why = 0) ∨ (o.ph = 1 ∧ stepNW ws o = ws ∧ (stepN ws o).ph = 0) ∨ (o.ph = 2 ∧ stepNW ws o = ws ∧ stepN ws o = o) := by
    by_cases h0 : o.ph = 0
    · left
      obtain ⟨hc, hlate⟩ := h.cnt o.q hq1 hq2
      have hone := sum_map_one (endT o.q) (·.n) (endT_le o.q hn0) ho
      have he0 : endT o.q o = 0 := if_neg (by omega)
      have htt := h.tot
      have hle : cntN (cellN ws o.q) (o.q : Int) + o.n ≤ 4294967295 := by
        rw [hc]
        unfold endedN
        unfold totN at htt
        rw [he0] at hone
        omega
      have hst : stepN ws o = { o with ph := 1, saw := cellN ws o.cur, put := wordN (o.cur : Int) (cntN (cellN ws o.cur) (o.cur : Int) + o.n), ans := cntN (cellN ws o.cur) (o.cur : Int) + o.n } := by
        unfold stepN
        rw [if_pos h0, if_pos hk, if_neg (by rw [hcur]; omega), if_neg (by rw [hcur]; omega)]
      refine ⟨h0, if_neg (by omega), ?_, ?_, ?_, hle⟩
      · rw [hst]
      · rw [hst]; show cellN ws o.cur = _; rw [hcur]
      · rw [hst]; show wordN (o.cur : Int) (cntN (cellN ws o.cur) (o.cur : Int) + o.n) = _; rw [hcur]
    right
    by_cases h1 : o.ph = 1
    · by_cases hs : cellN ws o.cur = o.saw
      · left
        have hst : stepN ws o = { o with ph := 2, why := 0 } := by
          unfold stepN
          rw [if_neg h0, if_pos h1, if_pos hs]
        refine ⟨h1, by rw [← hcur]; exact hs, ?_, by rw [hst], by rw [hst]⟩
        unfold stepNW
        rw [if_pos ⟨h1, hs⟩, hcur]
      · right; left
        refine ⟨h1, if_neg (fun e => hs e.2), ?_⟩
        unfold stepN
        rw [if_neg h0, if_pos h1, if_neg hs]
    · right; right
      have h2 : o.ph = 2 := by have := hok.ph; omega
      refine ⟨h2, if_neg (by omega), ?_⟩
      unfold stepN
      rw [if_neg h0, if_neg h1]
  have hok2 : ∀ x ∈ os.set i (stepN ws o), OkN x ∧ x.k = 1 ∧ Q + 1 - (stepNW ws o).length ≤ x.q ∧ x.q ≤ Q := by
    intro x hx
    rw [hln]
    rcases mem_set hx with hx | rfl
    · exact h.ok x hx
    · exact ⟨hok', hsm.1.trans hk, by rw [hsm.2.2]; exact hq1, by rw [hsm.2.2]; exact hq2⟩
  rcases hcase with ⟨p0, hw, hp, hs, hput, hle⟩ | ⟨p1, hs, hw, hp, hy⟩ | ⟨p1, hw, hp⟩ | ⟨p2, hw, hst⟩
  · refine ⟨by rw [hln]; exact h.pos, hok2, fun x hx h2 => ?_, fun x hx h1 => ?_, by rw [htot]; exact h.tot, fun t ht1 ht2 => ?_, by rw [hw]; exact h.u64⟩
    · rcases mem_set hx with hx | rfl
      · exact h.two x hx h2
      · omega
    · rcases mem_set hx with hx | rfl
      · exact h.one x hx h1
      · rw [hsm.2.1, hsm.2.2, hs, hput]; exact ⟨hle, rfl⟩
    · rw [hln] at ht1
      have e1 : endT t o = 0 := if_neg (by omega)
      have e2 : endT t (stepN ws o) = 0 := if_neg (by omega)
      rw [hend, e1, e2, hw]
      have := h.cnt t ht1 ht2
      exact ⟨by rw [this.1]; omega, this.2⟩
  · obtain ⟨hle, hput⟩ := h.one o hmem p1
    have hc0 := (cntN_lo (hc64 o.q) (o.q : Int)).1
    rw [hs] at hc0
    have hnn := hn0 o hmem
    have hU : U64 o.put := (hok.one p1).2
    refine ⟨by rw [hln]; exact h.pos, hok2, fun x hx h2 => ?_, fun x hx h1 => ?_, by rw [htot]; exact h.tot, fun t ht1 ht2 => ?_, ?_⟩
    · rcases mem_set hx with hx | rfl
      · exact h.two x hx h2
      · exact hy
    · rcases mem_set hx with hx | rfl
      · exact h.one x hx h1
      · omega
    · rw [hln] at ht1
      rw [hend, hw]
      have e1 : endT t o = 0 := if_neg (by omega)
      rw [e1]
      have ht := h.cnt t ht1 ht2
      by_cases e : o.q = t
      · subst e
        have e2 : endT o.q (stepN ws o) = o.n := by
          unfold endT
          rw [if_pos ⟨hsm.2.2, hp⟩, hsm.2.1]
        rw [cellN_set_eq h.pos, e2, hput, ← ht.1, hs]
        have hd : wordN (o.q : Int) (cntN o.saw (o.q : Int) + o.n) / 4294967296 = (o.q : Int) := by unfold wordN; omega
        refine ⟨?_, by omega⟩
        generalize hx : cntN o.saw (o.q : Int) = x at *
        unfold cntN
        rw [if_pos hd]
        unfold wordN
        omega
      · have e2 : endT t (stepN ws o) = 0 := if_neg (by rw [hsm.2.2]; exact fun h => e h.1)
        rw [cellN_set_ne (mod_ne h.pos hq1 hq2 ht1 ht2 e), e2]
        exact ⟨by rw [ht.1]; omega, ht.2⟩
    · rw [hw]
      intro u hu
      rcases mem_set hu with hu | rfl
      · exact h.u64 u hu
      · exact hU
  · refine ⟨by rw [hln]; exact h.pos, hok2, fun x hx h2 => ?_, fun x hx h1 => ?_, by rw [htot]; exact h.tot, fun t ht1 ht2 => ?_, by rw [hw]; exact h.u64⟩
    · rcases mem_set hx with hx | rfl
      · exact h.two x hx h2
      · omega
    · rcases mem_set hx with hx | rfl
      · exact h.one x hx h1
      · omega
    · rw [hln] at ht1
      have e1 : endT t o = 0 := if_neg (by omega)
      have e2 : endT t (stepN ws o) = 0 := if_neg (by omega)
      rw [hend, e1, e2, hw]
      have := h.cnt t ht1 ht2
      exact ⟨by rw [this.1]; omega, this.2⟩
  · rw [hst, hw]
    have e : os.set i o = os := by
      apply List.ext_getElem?
      intro j
      by_cases e : i = j
      · subst e; rw [List.getElem?_set_self (lt_of_get ho), ho]
      · rw [List.getElem?_set_ne e]
    rw [e]
    exact h
end Go.Proofs.Ytjehcgeodcpcaaa
