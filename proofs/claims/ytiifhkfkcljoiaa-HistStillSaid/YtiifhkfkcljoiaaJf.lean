/- WHAT WAS RECORDED, AS A LIST; the snapshot of it. No program. -/
import Derived.Test.YtiifhkfkcljoiaaJb
namespace Go.Proofs.Ytiifhkfkcljoiaa
open Go Go.RowKit
set_option maxRecDepth 100000
/-- a number, how often, its bucket -/
structure RecH where
  v : Int
  n : Int
  i : Nat
def OkR (l h d : Int) (r : RecH) : Prop := 0 ≤ r.v ∧ r.v ≤ h ∧ 1 ≤ r.n ∧ r.i = ixH l d r.v
def cN : List RecH → Nat → Int
  | [], _ => 0
  | r :: rs, j => (if r.i = j then r.n else 0) + cN rs j
def tN : List RecH → Int
  | [] => 0
  | r :: rs => r.n + tN rs
def tS : List RecH → Int
  | [] => 0
  | r :: rs => r.v * r.n + tS rs
def loR : List RecH → Int
  | [] => 18446744073709551615
  | r :: rs => min r.v (loR rs)
def hiR : List RecH → Int
  | [] => 0
  | r :: rs => max (r.v + 1) (hiR rs)
/-- the words are those of what was recorded -/
structure HistR (m : Nat) (rs : List RecH) (ws : List Int) : Prop where
  len : ws.length = m + 4
  b : ∀ j, j < m → gw ws j = IntKind.u64.wrap (cN rs j)
  s : gw ws m = IntKind.u64.wrap (tS rs)
  lo : gw ws (m + 1) = loR rs
  hi : gw ws (m + 2) = hiR rs
  c : gw ws (m + 3) = IntKind.u64.wrap (tN rs)
theorem gw_set_self {ws : List Int} {j : Nat} {x : Int} (h : j < ws.length) : gw (ws.set j x) j = x := by unfold gw; rw [List.getD_eq_getElem?_getD, List.getElem?_set_self h]; rfl
theorem gw_set_far {ws : List Int} {j k : Nat} {x : Int} (h : j ≠ k) : gw (ws.set j x) k = gw ws k := by unfold gw; rw [List.getD_eq_getElem?_getD, List.getD_eq_getElem?_getD, List.getElem?_set_ne h]
theorem gw_rep {n j : Nat} : gw (List.replicate n 0) j = 0 := by
  unfold gw
  rw [List.getD_eq_getElem?_getD, List.getElem?_replicate]
  split <;> rfl
theorem hist_start (m : Nat) : HistR m [] (startH m) := by
  have hl : (List.replicate (m + 4) (0 : Int)).length = m + 4 := by simp
  refine ⟨by simp [startH], fun j hj => ?_, ?_, ?_, ?_, ?_⟩
  · unfold startH; rw [gw_set_far (by omega), gw_rep]; rfl
  · unfold startH; rw [gw_set_far (by omega), gw_rep]; rfl
  · unfold startH; rw [gw_set_self (by rw [hl]; omega)]; rfl
  · unfold startH; rw [gw_set_far (by omega), gw_rep]; rfl
  · unfold startH; rw [gw_set_far (by omega), gw_rep]; rfl
theorem add_wrap (a b : Int) : IntKind.u64.wrap (IntKind.u64.wrap a + b) = IntKind.u64.wrap (b + a) := by
  rw [IntKind.wrap_u64, IntKind.wrap_u64, IntKind.wrap_u64]; omega
theorem add_wrap2 (a b : Int) : IntKind.u64.wrap (IntKind.u64.wrap a + IntKind.u64.wrap b) = IntKind.u64.wrap (b + a) := by
  rw [IntKind.wrap_u64, IntKind.wrap_u64, IntKind.wrap_u64, IntKind.wrap_u64]; omega
theorem hist_rec {m : Nat} {rs : List RecH} {ws : List Int} {v n : Int} {i : Nat} (H : HistR m rs ws) (hi : i < m) (h0 : 0 ≤ v) (h1 : v ≤ 2305843009213693952) : HistR m (⟨v, n, i⟩ :: rs) (recW m ws v n i) := by
  obtain ⟨hl, hb, hs, hlo, hhi, hc⟩ := H
  have hv : v1 v = v + 1 := by unfold v1; rw [IntKind.wrap_u64]; omega
  let w0 := ws.set i (IntKind.u64.wrap (gw ws i + n))
  let w1 := w0.set m (IntKind.u64.wrap (gw w0 m + IntKind.u64.wrap (v * n)))
  let w2 := if v < gw w1 (m + 1) then w1.set (m + 1) v else w1
  let w3 := if gw w2 (m + 2) < v1 v then w2.set (m + 2) (v1 v) else w2
  have e : recW m ws v n i = w3.set (m + 3) (IntKind.u64.wrap (gw w3 (m + 3) + n)) := by
    simp [recW, finW, newR, r0, r1, r2, r3, r4, w0, w1, w2, w3]
  have l0 : w0.length = m + 4 := by simp [w0, hl]
  have l1 : w1.length = m + 4 := by simp [w1, l0]
  have l2 : w2.length = m + 4 := by simp only [w2]; split <;> simp [l1]
  have l3 : w3.length = m + 4 := by simp only [w3]; split <;> simp [l2]
  have f0 : ∀ k, k ≠ i → gw w0 k = gw ws k := fun k hk => gw_set_far (fun h => hk h.symm)
  have f1 : ∀ k, k ≠ m → gw w1 k = gw w0 k := fun k hk => gw_set_far (fun h => hk h.symm)
  have f2 : ∀ k, k ≠ m + 1 → gw w2 k = gw w1 k := fun k hk => by
    simp only [w2]; split
    · exact gw_set_far (fun h => hk h.symm)
    · rfl
  have f3 : ∀ k, k ≠ m + 2 → gw w3 k = gw w2 k := fun k hk => by
    simp only [w3]; split
    · exact gw_set_far (fun h => hk h.symm)
    · rfl
  have g0 : gw w0 i = IntKind.u64.wrap (gw ws i + n) := gw_set_self (by omega)
  have g1 : gw w1 m = IntKind.u64.wrap (gw w0 m + IntKind.u64.wrap (v * n)) := gw_set_self (by omega)
  have g2 : gw w2 (m + 1) = min v (loR rs) := by
    have e1 : gw w1 (m + 1) = loR rs := by rw [f1 _ (by omega), f0 _ (by omega), hlo]
    simp only [w2]
    split
    · rw [gw_set_self (by omega)]; omega
    · omega
  have g3 : gw w3 (m + 2) = max (v + 1) (hiR rs) := by
    have e1 : gw w2 (m + 2) = hiR rs := by rw [f2 _ (by omega), f1 _ (by omega), f0 _ (by omega), hhi]
    simp only [w3]
    split
    · rw [gw_set_self (by omega)]; omega
    · omega
  rw [e]
  refine ⟨by simp [l3], fun j hj => ?_, ?_, ?_, ?_, ?_⟩
  · rw [gw_set_far (by omega), f3 _ (by omega), f2 _ (by omega), f1 _ (by omega)]
    by_cases hij : j = i
    · subst hij
      rw [g0, hb j hj]
      show _ = IntKind.u64.wrap ((if j = j then n else 0) + cN rs j)
      rw [if_pos rfl, add_wrap]
    · rw [f0 _ hij, hb j hj]
      show _ = IntKind.u64.wrap ((if i = j then n else 0) + cN rs j)
      rw [if_neg (fun h => hij h.symm), Int.zero_add]
  · rw [gw_set_far (by omega), f3 _ (by omega), f2 _ (by omega), g1, f0 _ (by omega), hs]
    exact add_wrap2 _ _
  · rw [gw_set_far (by omega), f3 _ (by omega), g2]; rfl
  · rw [gw_set_far (by omega), g3]; rfl
  · rw [gw_set_self (by omega), f3 _ (by omega), f2 _ (by omega), f1 _ (by omega), f0 _ (by omega), hc]
    exact add_wrap _ _
/-- the snapshot of what was recorded -/
def shotR (m : Nat) (rs : List RecH) : ShotH := ⟨IntKind.u64.wrap (tN rs), IntKind.u64.wrap (tS rs), wrap64 (loR rs), wrap64 (wrap64 (hiR rs) - 1), (List.range m).map (fun j => IntKind.u64.wrap (cN rs j))⟩
theorem hist_shot {m : Nat} {rs : List RecH} {ws : List Int} (H : HistR m rs ws) : shotH m ws = shotR m rs := by
  have hl := H.len
  unfold shotH shotR
  rw [H.c, H.s, H.lo, H.hi]
  congr 1
  apply List.ext_getElem?
  intro j
  by_cases hj : j < m
  · rw [List.getElem?_take_of_lt hj, gw_get (by omega), H.b j hj]
    simp [hj]
  · rw [List.getElem?_eq_none (by simp; omega), List.getElem?_eq_none (by simp; omega)]
section
variable {m : Nat} {l h d : Int} {rs r1 r2 : List RecH}
theorem shot_len : (shotR m rs).bu.length = m := by simp [shotR]
theorem shot_get {j : Nat} (hj : j < m) : (shotR m rs).bu[j]? = some (IntKind.u64.wrap (cN rs j)) := by simp [shotR, hj]
theorem cN_app (j : Nat) : cN (r1 ++ r2) j = cN r1 j + cN r2 j := by
  induction r1 with
  | nil => simp [cN]
  | cons r t ih => simp only [List.cons_append, cN, ih]; omega
theorem tN_app : tN (r1 ++ r2) = tN r1 + tN r2 := by
  induction r1 with
  | nil => simp [tN]
  | cons r t ih => simp only [List.cons_append, tN, ih]; omega
theorem tS_app : tS (r1 ++ r2) = tS r1 + tS r2 := by
  induction r1 with
  | nil => simp [tS]
  | cons r t ih => simp only [List.cons_append, tS, ih]; omega
theorem loR_top : loR rs ≤ 18446744073709551615 := by
  induction rs with
  | nil => simp [loR]
  | cons r t ih => simp only [loR]; omega
theorem hiR_low : 0 ≤ hiR rs := by
  induction rs with
  | nil => simp [hiR]
  | cons r t ih => simp only [hiR]; omega
theorem loR_app : loR (r1 ++ r2) = min (loR r1) (loR r2) := by
  induction r1 with
  | nil => have := loR_top (rs := r2); simp only [List.nil_append, loR]; omega
  | cons r t ih => simp only [List.cons_append, loR, ih]; omega
theorem hiR_app : hiR (r1 ++ r2) = max (hiR r1) (hiR r2) := by
  induction r1 with
  | nil => have := hiR_low (rs := r2); simp only [List.nil_append, hiR]; omega
  | cons r t ih => simp only [List.cons_append, hiR, ih]; omega
/-- the least and the greatest one are among them -/
theorem lo_mem (hok : ∀ r ∈ rs, OkR l h d r) (hne : rs ≠ []) (hh : h ≤ 2305843009213693952) : ∃ r ∈ rs, r.v = loR rs ∧ ∀ q ∈ rs, loR rs ≤ q.v := by
  induction rs with
  | nil => exact absurd rfl hne
  | cons r t ih =>
    obtain ⟨a0, a1, _, _⟩ := hok r (by simp)
    by_cases ht : t = []
    · subst ht
      exact ⟨r, by simp, by simp only [loR]; omega, fun q hq => by
        rw [show q = r by simpa using hq]
        simp only [loR]
        omega⟩
    · obtain ⟨q, hq, e, hall⟩ := ih (fun r hr => hok r (List.mem_cons_of_mem _ hr)) ht
      by_cases hlt : r.v ≤ loR t
      · exact ⟨r, by simp, by simp only [loR]; omega, fun p hp => by
          rcases List.mem_cons.1 hp with rfl | hp
          · simp only [loR]; omega
          · have := hall p hp; simp only [loR]; omega⟩
      · exact ⟨q, List.mem_cons_of_mem _ hq, by simp only [loR]; omega, fun p hp => by
          rcases List.mem_cons.1 hp with rfl | hp
          · simp only [loR]; omega
          · have := hall p hp; simp only [loR]; omega⟩
theorem hi_mem (hok : ∀ r ∈ rs, OkR l h d r) (hne : rs ≠ []) : ∃ r ∈ rs, r.v + 1 = hiR rs ∧ ∀ q ∈ rs, q.v + 1 ≤ hiR rs := by
  induction rs with
  | nil => exact absurd rfl hne
  | cons r t ih =>
    obtain ⟨a0, a1, _, _⟩ := hok r (by simp)
    by_cases ht : t = []
    · subst ht
      exact ⟨r, by simp, by simp only [hiR]; omega, fun q hq => by
        rw [show q = r by simpa using hq]
        simp only [hiR]
        omega⟩
    · obtain ⟨q, hq, e, hall⟩ := ih (fun r hr => hok r (List.mem_cons_of_mem _ hr)) ht
      by_cases hlt : hiR t ≤ r.v + 1
      · exact ⟨r, by simp, by simp only [hiR]; omega, fun p hp => by
          rcases List.mem_cons.1 hp with rfl | hp
          · simp only [hiR]; omega
          · have := hall p hp; simp only [hiR]; omega⟩
      · exact ⟨q, List.mem_cons_of_mem _ hq, by simp only [hiR]; omega, fun p hp => by
          rcases List.mem_cons.1 hp with rfl | hp
          · simp only [hiR]; omega
          · have := hall p hp; simp only [hiR]; omega⟩
theorem cN_low (hok : ∀ r ∈ rs, OkR l h d r) (j : Nat) : 0 ≤ cN rs j ∧ cN rs j ≤ tN rs := by
  induction rs with
  | nil => simp [cN, tN]
  | cons r t ih =>
    obtain ⟨_, _, a2, _⟩ := hok r (by simp)
    obtain ⟨b0, b1⟩ := ih (fun r hr => hok r (List.mem_cons_of_mem _ hr))
    simp only [cN, tN]
    split <;> omega
/-- one of them alone stands for a whole bucket -/
theorem cN_one (hok : ∀ r ∈ rs, OkR l h d r) {r : RecH} (hr : r ∈ rs) : r.n ≤ cN rs r.i ∧ 1 ≤ cN rs r.i := by
  induction rs with
  | nil => cases hr
  | cons q t ih =>
    have hk := fun r hr => hok r (List.mem_cons_of_mem _ hr)
    obtain ⟨_, _, a2, _⟩ := hok q (by simp)
    rcases List.mem_cons.1 hr with rfl | hr
    · have := (cN_low hk r.i).1
      simp only [cN, if_pos]; omega
    · obtain ⟨b0, b1⟩ := ih hk hr
      simp only [cN]
      split <;> omega
theorem cN_zero {j : Nat} (hj : ∀ r ∈ rs, r.i ≠ j) : cN rs j = 0 := by
  induction rs with
  | nil => rfl
  | cons q t ih =>
    simp only [cN]
    rw [if_neg (hj q (by simp)), ih (fun r hr => hj r (List.mem_cons_of_mem _ hr))]
    rfl
theorem cN_pos {j : Nat} (hne : cN rs j ≠ 0) : ∃ r ∈ rs, r.i = j := by
  apply Classical.byContradiction
  intro hc
  exact hne (cN_zero (fun r hr he => hc ⟨r, hr, he⟩))
/-- all buckets together -/
theorem sum_all (hi : ∀ r ∈ rs, r.i < m) : ((List.range m).map (cN rs)).sum = tN rs := by
  induction rs with
  | nil =>
    have key : ∀ k : Nat, ((List.range k).map (cN [])).sum = 0 := fun k => by
      induction k with
      | zero => rfl
      | succ k ih =>
        rw [List.range_succ, List.map_append, List.sum_append, ih]
        rfl
    exact key m
  | cons r t ih =>
    have ht := ih (fun r hr => hi r (List.mem_cons_of_mem _ hr))
    have hr := hi r (by simp)
    have key : ∀ (k : Nat), ((List.range k).map (cN (r :: t))).sum = (if r.i < k then r.n else 0) + ((List.range k).map (cN t)).sum := fun k => by
      induction k with
      | zero => simp
      | succ k ihk =>
        rw [List.range_succ, List.map_append, List.map_append, List.sum_append, List.sum_append, ihk]
        simp only [List.map_cons, List.map_nil, List.sum_cons, List.sum_nil, cN]
        repeat' split
        all_goals omega
    rw [key, if_pos hr, ht]
    rfl
theorem sum_wrap (f : Nat → Int) (k : Nat) : IntKind.u64.wrap ((List.range k).map (fun j => IntKind.u64.wrap (f j))).sum = IntKind.u64.wrap ((List.range k).map f).sum := by
  induction k with
  | zero => rfl
  | succ k ih =>
    rw [List.range_succ, List.map_append, List.map_append, List.sum_append, List.sum_append]
    simp only [List.map_cons, List.map_nil, List.sum_cons, List.sum_nil, Int.add_zero]
    rw [IntKind.wrap_u64, IntKind.wrap_u64] at ih
    rw [IntKind.wrap_u64, IntKind.wrap_u64, IntKind.wrap_u64]
    omega
end
end Go.Proofs.Ytiifhkfkcljoiaa
