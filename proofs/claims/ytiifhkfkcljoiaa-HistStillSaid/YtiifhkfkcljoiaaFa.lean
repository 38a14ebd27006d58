/- WHAT THE WORDS ARE WHILE MANY RECORD. No program. -/
import Derived.Test.YtiifhkfkcljoiaaJg
import Derived.Test.YtiifhkfkcljoiaaJt
namespace Go.Proofs.Ytiifhkfkcljoiaa
open Go Go.RowKit
set_option maxRecDepth 100000
set_option maxHeartbeats 3200000
def recO (o : OpH) : RecH := ⟨o.v, o.n, o.i⟩
/-- the records that have come so far as the place s -/
def Sg (s : Nat) (os : List OpH) : List RecH := os.filterMap fun o => if o.k = 1 ∧ s ≤ o.at_ then some (recO o) else none
/-- those that have ended -/
def Eg (os : List OpH) : List RecH := os.filterMap fun o => if o.k = 1 ∧ o.en = true then some (recO o) else none
/-- all -/
def Ag (os : List OpH) : List RecH := os.filterMap fun o => if o.k = 1 then some (recO o) else none
theorem Sg_at (s : Nat) (l1 l2 : List OpH) (o : OpH) : Sg s (l1 ++ o :: l2) = Sg s l1 ++ (Sg s [o] ++ Sg s l2) := by
  unfold Sg
  rw [List.filterMap_append, show o :: l2 = [o] ++ l2 from rfl, List.filterMap_append]
theorem Eg_at (l1 l2 : List OpH) (o : OpH) : Eg (l1 ++ o :: l2) = Eg l1 ++ (Eg [o] ++ Eg l2) := by
  unfold Eg
  rw [List.filterMap_append, show o :: l2 = [o] ++ l2 from rfl, List.filterMap_append]
theorem sg_one {s : Nat} {o o' : OpH} (hk : o'.k = o.k) (ha : o'.at_ = o.at_) (hr : recO o' = recO o) : Sg s [o'] = Sg s [o] := by
  unfold Sg
  simp only [List.filterMap_cons, List.filterMap_nil, hk, ha, hr]
/-- what holds of each one -/
structure OneR (m : Nat) (o : OpH) : Prop where
  wf : WfH m o
  fix : o.k = 1 → 0 ≤ o.v ∧ o.v ≤ 2305843009213693952 ∧ o.i < m
  saw : o.k = 1 → o.ld = true → (o.at_ = 2 → o.v < o.saw) ∧ (o.at_ = 3 → o.saw < v1 o.v)
  fin : o.k = 1 → o.en = true → o.at_ = 4
/-- the words are those of what each one has done -/
structure CrowdR (m : Nat) (os : List OpH) (ws : List Int) : Prop where
  len : ws.length = m + 4
  b : ∀ j, j < m → gw ws j = IntKind.u64.wrap (cN (Sg 1 os) j)
  s : gw ws m = IntKind.u64.wrap (tS (Sg 2 os))
  lo : gw ws (m + 1) = loR (Sg 3 os)
  hi : gw ws (m + 2) = hiR (Sg 4 os)
  c : gw ws (m + 3) = IntKind.u64.wrap (tN (Eg os))
theorem split_at {os : List OpH} {q : Nat} {o : OpH} (h : os[q]? = some o) : ∃ l1 l2, os = l1 ++ o :: l2 ∧ ∀ o', os.set q o' = l1 ++ o' :: l2 := by
  have hlt := lt_of_get h
  refine ⟨os.take q, os.drop (q + 1), ?_, fun o' => ?_⟩
  · have e : os[q] = o := by rw [List.getElem?_eq_getElem hlt] at h; exact Option.some.inj h
    rw [← e, List.getElem_cons_drop, List.take_append_drop]
  · rw [List.set_eq_take_append_cons_drop, if_pos hlt]
theorem OneR.step {m : Nat} {ws : List Int} {o : OpH} (h : OneR m o) (hw : WfH m (stepH m ws o)) : OneR m (stepH m ws o) := by
  refine ⟨hw, ?_, ?_, ?_⟩
  · have e : (stepH m ws o).k = o.k ∧ (stepH m ws o).v = o.v ∧ (stepH m ws o).i = o.i := by
      unfold stepH
      repeat (first | exact ⟨rfl, rfl, rfl⟩ | split)
    rw [e.1, e.2.1, e.2.2]
    exact h.fix
  · obtain ⟨k, v, n, i, at_, ld, saw, en, c, su, le, gr, bu⟩ := o
    have h3 := h.saw
    have h1 := h.wf
    dsimp only at h3
    intro hk hl
    rcases h1 with ⟨hk1, _, h4⟩ | ⟨hk2, _⟩
    · dsimp only at hk1 h4
      subst hk1
      cases en with
      | true => simp [stepH] at hl ⊢; exact h3 rfl hl
      | false =>
        obtain ⟨a1, a2⟩ := h4 rfl
        have h5 : at_ = 0 ∨ at_ = 1 ∨ at_ = 2 ∨ at_ = 3 ∨ at_ = 4 := by omega
        rcases h5 with rfl | rfl | rfl | rfl | rfl
        · cases ld with
          | true => have := a2 rfl; omega
          | false => simp [stepH] at hl
        · cases ld with
          | true => have := a2 rfl; omega
          | false => simp [stepH] at hl
        · cases ld with
          | true => by_cases e : gw ws (m + 1) = saw <;> simp [stepH, e] at hl
          | false =>
            by_cases e : v < gw ws (m + 1)
            · simp [stepH, e]
            · simp [stepH, e] at hl
        · cases ld with
          | true => by_cases e : gw ws (m + 2) = saw <;> simp [stepH, e] at hl
          | false =>
            by_cases e : gw ws (m + 2) < v1 v
            · simp [stepH, e]
            · simp [stepH, e] at hl
        · cases ld with
          | true => have := a2 rfl; omega
          | false => simp [stepH] at hl
    · dsimp only at hk2
      subst hk2
      have e : (stepH m ws ⟨2, v, n, i, at_, ld, saw, en, c, su, le, gr, bu⟩).k = 2 := by
        unfold stepH
        repeat (first | rfl | split)
      rw [e] at hk
      cases hk
  · obtain ⟨k, v, n, i, at_, ld, saw, en, c, su, le, gr, bu⟩ := o
    have h3 := h.fin
    have h1 := h.wf
    dsimp only at h3
    intro hk hl
    rcases h1 with ⟨hk1, _, h4⟩ | ⟨hk2, _⟩
    · dsimp only at hk1 h4
      subst hk1
      cases en with
      | true => simp [stepH]; exact h3 rfl rfl
      | false =>
        obtain ⟨a1, a2⟩ := h4 rfl
        have h5 : at_ = 0 ∨ at_ = 1 ∨ at_ = 2 ∨ at_ = 3 ∨ at_ = 4 := by omega
        rcases h5 with rfl | rfl | rfl | rfl | rfl
        · simp [stepH] at hl
        · simp [stepH] at hl
        · cases ld with
          | true => by_cases e : gw ws (m + 1) = saw <;> simp [stepH, e] at hl
          | false => by_cases e : v < gw ws (m + 1) <;> simp [stepH, e] at hl
        · cases ld with
          | true => by_cases e : gw ws (m + 2) = saw <;> simp [stepH, e] at hl
          | false => by_cases e : gw ws (m + 2) < v1 v <;> simp [stepH, e] at hl
        · simp [stepH]
    · dsimp only at hk2
      subst hk2
      have e : (stepH m ws ⟨2, v, n, i, at_, ld, saw, en, c, su, le, gr, bu⟩).k = 2 := by
        unfold stepH
        repeat (first | rfl | split)
      rw [e] at hk
      cases hk
section
variable {m : Nat} {l1 l2 : List OpH} {o o' : OpH} {ws ws' : List Int}
theorem same_sg {s : Nat} (h : Sg s [o'] = Sg s [o]) : Sg s (l1 ++ o' :: l2) = Sg s (l1 ++ o :: l2) := by rw [Sg_at, Sg_at, h]
theorem same_eg (h : Eg [o'] = Eg [o]) : Eg (l1 ++ o' :: l2) = Eg (l1 ++ o :: l2) := by rw [Eg_at, Eg_at, h]
theorem more_c {s : Nat} {r : RecH} (h : Sg s [o] = []) (h' : Sg s [o'] = [r]) (j : Nat) : cN (Sg s (l1 ++ o' :: l2)) j = (if r.i = j then r.n else 0) + cN (Sg s (l1 ++ o :: l2)) j := by
  rw [Sg_at, Sg_at, h, h', cN_app, cN_app, cN_app, cN_app]
  simp only [cN]
  omega
theorem more_s {s : Nat} {r : RecH} (h : Sg s [o] = []) (h' : Sg s [o'] = [r]) : tS (Sg s (l1 ++ o' :: l2)) = r.v * r.n + tS (Sg s (l1 ++ o :: l2)) := by
  rw [Sg_at, Sg_at, h, h', tS_app, tS_app, tS_app, tS_app]
  simp only [tS]
  omega
theorem more_lo {s : Nat} {r : RecH} (h : Sg s [o] = []) (h' : Sg s [o'] = [r]) : loR (Sg s (l1 ++ o' :: l2)) = min r.v (loR (Sg s (l1 ++ o :: l2))) := by
  rw [Sg_at, Sg_at, h, h', loR_app, loR_app, loR_app, loR_app]
  have h1 := loR_top (rs := Sg s l1)
  simp only [loR]
  omega
theorem more_hi {s : Nat} {r : RecH} (h : Sg s [o] = []) (h' : Sg s [o'] = [r]) : hiR (Sg s (l1 ++ o' :: l2)) = max (r.v + 1) (hiR (Sg s (l1 ++ o :: l2))) := by
  rw [Sg_at, Sg_at, h, h', hiR_app, hiR_app, hiR_app, hiR_app]
  have h1 := hiR_low (rs := Sg s l1)
  simp only [hiR]
  omega
theorem more_t {r : RecH} (h : Eg [o] = []) (h' : Eg [o'] = [r]) : tN (Eg (l1 ++ o' :: l2)) = r.n + tN (Eg (l1 ++ o :: l2)) := by
  rw [Eg_at, Eg_at, h, h', tN_app, tN_app, tN_app, tN_app]
  simp only [tN]
  omega
end
theorem CrowdR.step {m q : Nat} {os : List OpH} {ws : List Int} {o : OpH} (H : CrowdR m os ws) (hq : os[q]? = some o) (ho : OneR m o) : CrowdR m (os.set q (stepH m ws o)) (stepW m ws o) := by
  obtain ⟨l1, l2, e1, e2⟩ := split_at hq
  rw [e2]
  subst e1
  obtain ⟨hl, hb, hs, hlo, hhi, hc⟩ := H
  obtain ⟨k, v, n, i, at_, ld, saw, en, c, su, le, gr, bu⟩ := o
  obtain ⟨hwf, hfix, hsaw, _⟩ := ho
  dsimp only at hfix hsaw
  have keep : ∀ o' : OpH, (∀ s, Sg s [o'] = Sg s [(⟨k, v, n, i, at_, ld, saw, en, c, su, le, gr, bu⟩ : OpH)]) → Eg [o'] = Eg [(⟨k, v, n, i, at_, ld, saw, en, c, su, le, gr, bu⟩ : OpH)] → CrowdR m (l1 ++ o' :: l2) ws := fun o' h1 h2 =>
    ⟨hl, fun j hj => by rw [same_sg (h1 1)]; exact hb j hj, by rw [same_sg (h1 2)]; exact hs, by rw [same_sg (h1 3)]; exact hlo, by rw [same_sg (h1 4)]; exact hhi, by rw [same_eg h2]; exact hc⟩
  rcases hwf with ⟨hk1, _, h4⟩ | ⟨hk2, _, h5⟩
  · dsimp only at hk1 h4
    subst hk1
    cases en with
    | true =>
      have es : stepH m ws ⟨1, v, n, i, at_, ld, saw, true, c, su, le, gr, bu⟩ = ⟨1, v, n, i, at_, ld, saw, true, c, su, le, gr, bu⟩ := by simp [stepH]
      have ew : stepW m ws ⟨1, v, n, i, at_, ld, saw, true, c, su, le, gr, bu⟩ = ws := by simp [stepW]
      rw [es, ew]
      exact ⟨hl, hb, hs, hlo, hhi, hc⟩
    | false =>
      obtain ⟨a1, a2⟩ := h4 rfl
      obtain ⟨f0, f1, f2⟩ := hfix rfl
      have hv : v1 v = v + 1 := by unfold v1; rw [IntKind.wrap_u64]; omega
      have h5 : at_ = 0 ∨ at_ = 1 ∨ at_ = 2 ∨ at_ = 3 ∨ at_ = 4 := by omega
      rcases h5 with rfl | rfl | rfl | rfl | rfl
      · obtain rfl : ld = false := by cases ld; rfl; have := a2 rfl; omega
        have es : stepH m ws ⟨1, v, n, i, 0, false, saw, false, c, su, le, gr, bu⟩ = ⟨1, v, n, i, 1, false, saw, false, c, su, le, gr, bu⟩ := by simp [stepH]
        have ew : stepW m ws ⟨1, v, n, i, 0, false, saw, false, c, su, le, gr, bu⟩ = ws.set i (IntKind.u64.wrap (gw ws i + n)) := by simp [stepW]
        rw [es, ew]
        refine ⟨by simp [hl], fun j hj => ?_, ?_, ?_, ?_, ?_⟩
        · rw [more_c (o := ⟨1, v, n, i, 0, false, saw, false, c, su, le, gr, bu⟩) (r := ⟨v, n, i⟩) (by simp [Sg]) (by simp [Sg, recO])]
          by_cases e : i = j
          · subst e
            rw [gw_set_self (by omega), hb i hj, if_pos rfl, add_wrap]
          · rw [gw_set_far e, hb j hj, if_neg e, Int.zero_add]
        · rw [gw_set_far (by omega), same_sg (o := ⟨1, v, n, i, 0, false, saw, false, c, su, le, gr, bu⟩) (by simp [Sg])]; exact hs
        · rw [gw_set_far (by omega), same_sg (o := ⟨1, v, n, i, 0, false, saw, false, c, su, le, gr, bu⟩) (by simp [Sg])]; exact hlo
        · rw [gw_set_far (by omega), same_sg (o := ⟨1, v, n, i, 0, false, saw, false, c, su, le, gr, bu⟩) (by simp [Sg])]; exact hhi
        · rw [gw_set_far (by omega), same_eg (o := ⟨1, v, n, i, 0, false, saw, false, c, su, le, gr, bu⟩) (by simp [Eg])]; exact hc
      · obtain rfl : ld = false := by cases ld; rfl; have := a2 rfl; omega
        have es : stepH m ws ⟨1, v, n, i, 1, false, saw, false, c, su, le, gr, bu⟩ = ⟨1, v, n, i, 2, false, saw, false, c, su, le, gr, bu⟩ := by simp [stepH]
        have ew : stepW m ws ⟨1, v, n, i, 1, false, saw, false, c, su, le, gr, bu⟩ = ws.set m (IntKind.u64.wrap (gw ws m + IntKind.u64.wrap (v * n))) := by simp [stepW]
        rw [es, ew]
        refine ⟨by simp [hl], fun j hj => ?_, ?_, ?_, ?_, ?_⟩
        · rw [gw_set_far (by omega), same_sg (o := ⟨1, v, n, i, 1, false, saw, false, c, su, le, gr, bu⟩) (by simp [Sg, recO])]; exact hb j hj
        · rw [more_s (o := ⟨1, v, n, i, 1, false, saw, false, c, su, le, gr, bu⟩) (r := ⟨v, n, i⟩) (by simp [Sg]) (by simp [Sg, recO]), gw_set_self (by omega), hs]
          exact add_wrap2 _ _
        · rw [gw_set_far (by omega), same_sg (o := ⟨1, v, n, i, 1, false, saw, false, c, su, le, gr, bu⟩) (by simp [Sg])]; exact hlo
        · rw [gw_set_far (by omega), same_sg (o := ⟨1, v, n, i, 1, false, saw, false, c, su, le, gr, bu⟩) (by simp [Sg])]; exact hhi
        · rw [gw_set_far (by omega), same_eg (o := ⟨1, v, n, i, 1, false, saw, false, c, su, le, gr, bu⟩) (by simp [Eg])]; exact hc
      · cases ld with
        | true =>
          by_cases e : gw ws (m + 1) = saw
          · have es : stepH m ws ⟨1, v, n, i, 2, true, saw, false, c, su, le, gr, bu⟩ = ⟨1, v, n, i, 3, false, saw, false, c, su, le, gr, bu⟩ := by simp [stepH, e]
            have ew : stepW m ws ⟨1, v, n, i, 2, true, saw, false, c, su, le, gr, bu⟩ = ws.set (m + 1) v := by simp [stepW, e]
            have hlt := (hsaw rfl rfl).1 rfl
            rw [es, ew]
            refine ⟨by simp [hl], fun j hj => ?_, ?_, ?_, ?_, ?_⟩
            · rw [gw_set_far (by omega), same_sg (o := ⟨1, v, n, i, 2, true, saw, false, c, su, le, gr, bu⟩) (by simp [Sg, recO])]; exact hb j hj
            · rw [gw_set_far (by omega), same_sg (o := ⟨1, v, n, i, 2, true, saw, false, c, su, le, gr, bu⟩) (by simp [Sg, recO])]; exact hs
            · rw [more_lo (o := ⟨1, v, n, i, 2, true, saw, false, c, su, le, gr, bu⟩) (r := ⟨v, n, i⟩) (by simp [Sg]) (by simp [Sg, recO]), gw_set_self (by omega), ← hlo]
              dsimp only
              omega
            · rw [gw_set_far (by omega), same_sg (o := ⟨1, v, n, i, 2, true, saw, false, c, su, le, gr, bu⟩) (by simp [Sg])]; exact hhi
            · rw [gw_set_far (by omega), same_eg (o := ⟨1, v, n, i, 2, true, saw, false, c, su, le, gr, bu⟩) (by simp [Eg])]; exact hc
          · have es : stepH m ws ⟨1, v, n, i, 2, true, saw, false, c, su, le, gr, bu⟩ = ⟨1, v, n, i, 2, false, saw, false, c, su, le, gr, bu⟩ := by simp [stepH, e]
            have ew : stepW m ws ⟨1, v, n, i, 2, true, saw, false, c, su, le, gr, bu⟩ = ws := by simp [stepW, e]
            rw [es, ew]
            exact keep _ (fun s => sg_one rfl rfl rfl) (by simp [Eg])
        | false =>
          by_cases e : v < gw ws (m + 1)
          · have es : stepH m ws ⟨1, v, n, i, 2, false, saw, false, c, su, le, gr, bu⟩ = ⟨1, v, n, i, 2, true, gw ws (m + 1), false, c, su, le, gr, bu⟩ := by simp [stepH, e]
            have ew : stepW m ws ⟨1, v, n, i, 2, false, saw, false, c, su, le, gr, bu⟩ = ws := by simp [stepW]
            rw [es, ew]
            exact keep _ (fun s => sg_one rfl rfl rfl) (by simp [Eg])
          · have es : stepH m ws ⟨1, v, n, i, 2, false, saw, false, c, su, le, gr, bu⟩ = ⟨1, v, n, i, 3, false, saw, false, c, su, le, gr, bu⟩ := by simp [stepH, e]
            have ew : stepW m ws ⟨1, v, n, i, 2, false, saw, false, c, su, le, gr, bu⟩ = ws := by simp [stepW]
            rw [es, ew]
            refine ⟨hl, fun j hj => ?_, ?_, ?_, ?_, ?_⟩
            · rw [same_sg (o := ⟨1, v, n, i, 2, false, saw, false, c, su, le, gr, bu⟩) (by simp [Sg, recO])]; exact hb j hj
            · rw [same_sg (o := ⟨1, v, n, i, 2, false, saw, false, c, su, le, gr, bu⟩) (by simp [Sg, recO])]; exact hs
            · rw [more_lo (o := ⟨1, v, n, i, 2, false, saw, false, c, su, le, gr, bu⟩) (r := ⟨v, n, i⟩) (by simp [Sg]) (by simp [Sg, recO]), ← hlo]
              dsimp only
              omega
            · rw [same_sg (o := ⟨1, v, n, i, 2, false, saw, false, c, su, le, gr, bu⟩) (by simp [Sg])]; exact hhi
            · rw [same_eg (o := ⟨1, v, n, i, 2, false, saw, false, c, su, le, gr, bu⟩) (by simp [Eg])]; exact hc
      · cases ld with
        | true =>
          by_cases e : gw ws (m + 2) = saw
          · have es : stepH m ws ⟨1, v, n, i, 3, true, saw, false, c, su, le, gr, bu⟩ = ⟨1, v, n, i, 4, false, saw, false, c, su, le, gr, bu⟩ := by simp [stepH, e]
            have ew : stepW m ws ⟨1, v, n, i, 3, true, saw, false, c, su, le, gr, bu⟩ = ws.set (m + 2) (v1 v) := by simp [stepW, e]
            have hlt := (hsaw rfl rfl).2 rfl
            rw [es, ew]
            refine ⟨by simp [hl], fun j hj => ?_, ?_, ?_, ?_, ?_⟩
            · rw [gw_set_far (by omega), same_sg (o := ⟨1, v, n, i, 3, true, saw, false, c, su, le, gr, bu⟩) (by simp [Sg, recO])]; exact hb j hj
            · rw [gw_set_far (by omega), same_sg (o := ⟨1, v, n, i, 3, true, saw, false, c, su, le, gr, bu⟩) (by simp [Sg, recO])]; exact hs
            · rw [gw_set_far (by omega), same_sg (o := ⟨1, v, n, i, 3, true, saw, false, c, su, le, gr, bu⟩) (by simp [Sg, recO])]; exact hlo
            · rw [more_hi (o := ⟨1, v, n, i, 3, true, saw, false, c, su, le, gr, bu⟩) (r := ⟨v, n, i⟩) (by simp [Sg]) (by simp [Sg, recO]), gw_set_self (by omega), ← hhi]
              dsimp only
              omega
            · rw [gw_set_far (by omega), same_eg (o := ⟨1, v, n, i, 3, true, saw, false, c, su, le, gr, bu⟩) (by simp [Eg])]; exact hc
          · have es : stepH m ws ⟨1, v, n, i, 3, true, saw, false, c, su, le, gr, bu⟩ = ⟨1, v, n, i, 3, false, saw, false, c, su, le, gr, bu⟩ := by simp [stepH, e]
            have ew : stepW m ws ⟨1, v, n, i, 3, true, saw, false, c, su, le, gr, bu⟩ = ws := by simp [stepW, e]
            rw [es, ew]
            exact keep _ (fun s => sg_one rfl rfl rfl) (by simp [Eg])
        | false =>
          by_cases e : gw ws (m + 2) < v1 v
          · have es : stepH m ws ⟨1, v, n, i, 3, false, saw, false, c, su, le, gr, bu⟩ = ⟨1, v, n, i, 3, true, gw ws (m + 2), false, c, su, le, gr, bu⟩ := by simp [stepH, e]
            have ew : stepW m ws ⟨1, v, n, i, 3, false, saw, false, c, su, le, gr, bu⟩ = ws := by simp [stepW]
            rw [es, ew]
            exact keep _ (fun s => sg_one rfl rfl rfl) (by simp [Eg])
          · have es : stepH m ws ⟨1, v, n, i, 3, false, saw, false, c, su, le, gr, bu⟩ = ⟨1, v, n, i, 4, false, saw, false, c, su, le, gr, bu⟩ := by simp [stepH, e]
            have ew : stepW m ws ⟨1, v, n, i, 3, false, saw, false, c, su, le, gr, bu⟩ = ws := by simp [stepW]
            rw [es, ew]
            refine ⟨hl, fun j hj => ?_, ?_, ?_, ?_, ?_⟩
            · rw [same_sg (o := ⟨1, v, n, i, 3, false, saw, false, c, su, le, gr, bu⟩) (by simp [Sg, recO])]; exact hb j hj
            · rw [same_sg (o := ⟨1, v, n, i, 3, false, saw, false, c, su, le, gr, bu⟩) (by simp [Sg, recO])]; exact hs
            · rw [same_sg (o := ⟨1, v, n, i, 3, false, saw, false, c, su, le, gr, bu⟩) (by simp [Sg, recO])]; exact hlo
            · rw [more_hi (o := ⟨1, v, n, i, 3, false, saw, false, c, su, le, gr, bu⟩) (r := ⟨v, n, i⟩) (by simp [Sg]) (by simp [Sg, recO]), ← hhi]
              dsimp only
              omega
            · rw [same_eg (o := ⟨1, v, n, i, 3, false, saw, false, c, su, le, gr, bu⟩) (by simp [Eg])]; exact hc
      · obtain rfl : ld = false := by cases ld; rfl; have := a2 rfl; omega
        have es : stepH m ws ⟨1, v, n, i, 4, false, saw, false, c, su, le, gr, bu⟩ = ⟨1, v, n, i, 4, false, saw, true, c, su, le, gr, bu⟩ := by simp [stepH]
        have ew : stepW m ws ⟨1, v, n, i, 4, false, saw, false, c, su, le, gr, bu⟩ = ws.set (m + 3) (IntKind.u64.wrap (gw ws (m + 3) + n)) := by simp [stepW]
        rw [es, ew]
        refine ⟨by simp [hl], fun j hj => ?_, ?_, ?_, ?_, ?_⟩
        · rw [gw_set_far (by omega), same_sg (o := ⟨1, v, n, i, 4, false, saw, false, c, su, le, gr, bu⟩) (by simp [Sg, recO])]; exact hb j hj
        · rw [gw_set_far (by omega), same_sg (o := ⟨1, v, n, i, 4, false, saw, false, c, su, le, gr, bu⟩) (by simp [Sg, recO])]; exact hs
        · rw [gw_set_far (by omega), same_sg (o := ⟨1, v, n, i, 4, false, saw, false, c, su, le, gr, bu⟩) (by simp [Sg, recO])]; exact hlo
        · rw [gw_set_far (by omega), same_sg (o := ⟨1, v, n, i, 4, false, saw, false, c, su, le, gr, bu⟩) (by simp [Sg, recO])]; exact hhi
        · rw [more_t (o := ⟨1, v, n, i, 4, false, saw, false, c, su, le, gr, bu⟩) (r := ⟨v, n, i⟩) (by simp [Eg]) (by simp [Eg, recO]), gw_set_self (by omega), hc]
          exact add_wrap _ _
  · dsimp only at hk2
    subst hk2
    have ew : stepW m ws ⟨2, v, n, i, at_, ld, saw, en, c, su, le, gr, bu⟩ = ws := by simp [stepW]
    have e : (stepH m ws ⟨2, v, n, i, at_, ld, saw, en, c, su, le, gr, bu⟩).k = 2 := by
      unfold stepH
      repeat (first | rfl | split)
    rw [ew]
    exact keep _ (fun s => by simp [Sg, e]) (by simp [Eg, e])
theorem ended_all {m : Nat} {os : List OpH} (h1 : ∀ o ∈ os, OneR m o) (h2 : ∀ o ∈ os, o.en = true) : (∀ s, s ≤ 4 → Sg s os = Ag os) ∧ Eg os = Ag os := by
  induction os with
  | nil => exact ⟨fun s _ => rfl, rfl⟩
  | cons o t ih =>
    obtain ⟨a, b⟩ := ih (fun x hx => h1 x (List.mem_cons_of_mem _ hx)) (fun x hx => h2 x (List.mem_cons_of_mem _ hx))
    have hen := h2 o (by simp)
    have hfin := (h1 o (by simp)).fin
    refine ⟨fun s hs => ?_, ?_⟩
    · have := a s hs
      unfold Sg Ag at this ⊢
      simp only [List.filterMap_cons, this]
      by_cases hk : o.k = 1
      · have := hfin hk hen
        rw [if_pos ⟨hk, by omega⟩, if_pos hk]
      · rw [if_neg (fun e => hk e.1), if_neg hk]
    · unfold Eg Ag at b ⊢
      simp only [List.filterMap_cons, b]
      by_cases hk : o.k = 1
      · rw [if_pos ⟨hk, hen⟩, if_pos hk]
      · rw [if_neg (fun e => hk e.1), if_neg hk]
theorem CrowdR.still {m : Nat} {os : List OpH} {ws : List Int} (H : CrowdR m os ws) (h1 : ∀ o ∈ os, OneR m o) (h2 : ∀ o ∈ os, o.en = true) : HistR m (Ag os) ws := by
  obtain ⟨a, b⟩ := ended_all h1 h2
  exact ⟨H.len, by rw [← a 1 (by omega)]; exact H.b, by rw [← a 2 (by omega)]; exact H.s, by rw [← a 3 (by omega)]; exact H.lo, by rw [← a 4 (by omega)]; exact H.hi, by rw [← b]; exact H.c⟩
theorem CrowdR.start {m : Nat} {os : List OpH} (h : ∀ o ∈ os, o.at_ = 0 ∧ o.en = false) : CrowdR m os (startH m) := by
  have e1 : ∀ s, 1 ≤ s → Sg s os = [] := fun s hs => by
    induction os with
    | nil => rfl
    | cons o t ih =>
      have := ih (fun x hx => h x (List.mem_cons_of_mem _ hx))
      unfold Sg at this ⊢
      rw [List.filterMap_cons, this, if_neg (fun e => by have := (h o (by simp)).1; omega)]
  have e2 : Eg os = [] := by
    induction os with
    | nil => rfl
    | cons o t ih =>
      have := ih (fun x hx => h x (List.mem_cons_of_mem _ hx)) (fun s hs => by
        have := e1 s hs
        unfold Sg at this ⊢
        rw [List.filterMap_cons, if_neg (fun e => by have := (h o (by simp)).1; omega)] at this
        exact this)
      unfold Eg at this ⊢
      rw [List.filterMap_cons, this, if_neg (fun e => by have := (h o (by simp)).2; rw [this] at e; cases e.2)]
  obtain ⟨a1, a2, a3, a4, a5, a6⟩ := hist_start m
  exact ⟨a1, by rw [e1 1 (by omega)]; exact a2, by rw [e1 2 (by omega)]; exact a3, by rw [e1 3 (by omega)]; exact a4, by rw [e1 4 (by omega)]; exact a5, by rw [e2]; exact a6⟩
theorem step_wf {m : Nat} {ws : List Int} {o : OpH} (hm : 0 < m) (hw : WfH m o) (he : o.en = false) : WfH m (stepH m ws o) := by
  obtain ⟨k, v, n, i, at_, ld, saw, en, c, su, le, gr, bu⟩ := o
  dsimp only at he
  subst he
  rcases hw with ⟨hk, hb, h4⟩ | ⟨hk, hld, h4⟩
  · dsimp only at hk hb h4
    subst hk hb
    obtain ⟨a1, a2⟩ := h4 rfl
    have h5 : at_ = 0 ∨ at_ = 1 ∨ at_ = 2 ∨ at_ = 3 ∨ at_ = 4 := by omega
    refine .inl ?_
    rcases h5 with rfl | rfl | rfl | rfl | rfl
    · obtain rfl : ld = false := by cases ld; rfl; have := a2 rfl; omega
      simp [stepH]
    · obtain rfl : ld = false := by cases ld; rfl; have := a2 rfl; omega
      simp [stepH]
    · cases ld with
      | true => by_cases e : gw ws (m + 1) = saw <;> simp [stepH, e]
      | false => by_cases e : v < gw ws (m + 1) <;> simp [stepH, e]
    · cases ld with
      | true => by_cases e : gw ws (m + 2) = saw <;> simp [stepH, e]
      | false => by_cases e : gw ws (m + 2) < v1 v <;> simp [stepH, e]
    · obtain rfl : ld = false := by cases ld; rfl; have := a2 rfl; omega
      simp [stepH]
  · dsimp only at hk hld h4
    subst hk hld
    refine .inr ?_
    rcases h4 with ⟨_, hb, h5⟩ | ⟨hat, ⟨_, h5⟩ | ⟨h5, _⟩⟩
    · subst hb
      have h6 : at_ = 0 ∨ at_ = 1 ∨ at_ = 2 ∨ at_ = 3 := by omega
      rcases h6 with rfl | rfl | rfl | rfl
      · simp [stepH]
      · simp [stepH]
      · simp [stepH]
      · simp [stepH, hm]
    · subst hat
      have q1 : ¬ (4 + bu.length = 1) := by omega
      have q2 : ¬ (4 + bu.length = 2) := by omega
      have q3 : ¬ (4 + bu.length = 3) := by omega
      by_cases e : bu.length + 1 = m
      · simp [stepH, q1, q2, q3, e]
        omega
      · simp [stepH, q1, q2, q3, e]
        omega
    · cases h5
/-- how many steps it takes at most, alone from now on -/
def muA (m : Nat) (ws : List Int) (o : OpH) : Nat := muH m o + (if o.k = 1 ∧ o.ld = true ∧ o.en = false ∧ gw ws (m + o.at_ - 1) ≠ o.saw then 2 else 0)
theorem muA_step {m : Nat} {ws : List Int} {o : OpH} (hm : 0 < m) (ho : OneR m o) (he : o.en = false) (hl : m < ws.length) (_h3 : ws.length = m + 4) : muA m (stepW m ws o) (stepH m ws o) < muA m ws o := by
  by_cases ha : AloneH m ws o
  · obtain ⟨b1, _, _, b4⟩ := alone_step ho.wf ha he hl
    have e1 : muA m (stepW m ws o) (stepH m ws o) = muH m (stepH m ws o) := by
      unfold muA
      rw [if_neg, Nat.add_zero]
      rintro ⟨c1, c2, c3, c4⟩
      have d := b1 c1 c2
      have hw : WfH m (stepH m ws o) → False := fun hw => by
        rcases hw with ⟨_, _, h4⟩ | ⟨h2, _⟩
        · have := (h4 c3).2 c2
          rcases this with e | e
          · exact c4 (by rw [e, (d.1 e).1]; rfl)
          · exact c4 (by rw [e, (d.2 e).1]; rfl)
        · omega
      exact hw (step_wf hm ho.wf he)
    have e2 : muH m o ≤ muA m ws o := by unfold muA; omega
    omega
  · obtain ⟨k, v, n, i, at_, ld, saw, en, c, su, le, gr, bu⟩ := o
    dsimp only at he
    subst he
    unfold AloneH at ha
    dsimp only at ha
    have hk : k = 1 := Classical.byContradiction (fun h => ha (fun a => absurd a h))
    have hld : ld = true := Classical.byContradiction (fun h => ha (fun _ a => absurd a h))
    subst hk hld
    rcases ho.wf with ⟨_, _, h4⟩ | ⟨h2, _⟩
    · obtain ⟨_, a2⟩ := h4 rfl
      have hs := ho.saw rfl rfl
      dsimp only at hs
      rcases a2 rfl with e | e
      · dsimp only at e
        subst e
        have hne : gw ws (m + 1) ≠ saw := fun e => ha (fun _ _ => ⟨fun _ => ⟨e.symm, hs.1 rfl⟩, fun h => by omega⟩)
        simp [muA, muH, stepH, stepW, hne]
      · dsimp only at e
        subst e
        have hne : gw ws (m + 2) ≠ saw := fun e => ha (fun _ _ => ⟨fun h => by omega, fun _ => ⟨e.symm, hs.2 rfl⟩⟩)
        simp [muA, muH, stepH, stepW, hne]
    · cases h2
theorem muA_few {m : Nat} {ws : List Int} {o : OpH} (hm : 3 ≤ m) : muA m ws o ≤ m + 16 := by
  unfold muA muH
  repeat' split
  all_goals omega
theorem muA_pos {m : Nat} {ws : List Int} {o : OpH} (ho : OneR m o) (he : o.en = false) : 1 ≤ muA m ws o := by
  unfold muA muH
  rw [if_neg (by rw [he]; decide)]
  rcases ho.wf with ⟨hk, _, h4⟩ | ⟨hk, _, ⟨_, _, h4⟩ | ⟨h4, ⟨_, h5⟩ | ⟨h5, _⟩⟩⟩
  · obtain ⟨a1, a2⟩ := h4 he
    rw [if_pos hk]
    split <;> omega
  · rw [if_neg (by rw [hk]; decide)]
    omega
  · rw [if_neg (by rw [hk]; decide)]
    omega
  · rw [he] at h5; cases h5
end Go.Proofs.Ytiifhkfkcljoiaa
