/- WHAT 'SnapTrue' SAYS, WITHOUT A PROGRAM: what a clean scan has seen is what all registers had at one moment. -/
import Derived.Test.YtdadgppbpomdoaaPv
namespace Go.Proofs.Ytdadgppbpomdoaa
open Go Go.RowKit

/-- what an operation has seen of what the registers had behind each action: f: the moment behind its first action; a: what the last clean scan ahead of that answered -/
structure SeenO (n : Nat) (hist : List (List Int)) (o : OpQ) (f : Nat) (a : List Int) : Prop where
  lt : f < hist.length
  ahead : a = [] ∨ ∃ m, m ≤ f ∧ hist[m]? = some a
  scan : o.k = 3 → o.ph = 0 → o.lw.length < n ∧ (o.la = [] ∧ o.c = 0 ∨ o.la.length = n ∧ 1 ≤ o.c) ∧ (f = 0 → o.la = [] ∧ o.lw = []) ∧
    (f ≠ 0 → ∃ s, f ≤ s ∧ s < hist.length ∧ (∀ (j : Nat) (x : Int), o.la[j]? = some x → ∃ (m : Nat) (b : List Int), m ≤ s ∧ hist[m]? = some b ∧ b[j]? = some x) ∧ (∀ (j : Nat) (x : Int), o.lw[j]? = some x → ∃ (m : Nat) (b : List Int), s ≤ m ∧ hist[m]? = some b ∧ b[j]? = some x))
/-- of all of them -/
structure SeenQ (n : Nat) (hist : List (List Int)) (ws : List Int) (os : List OpQ) (first : List Nat) (fl : List Int) (ah : List (List Int)) : Prop where
  last : hist[hist.length - 1]? = some ws
  pos : 0 < hist.length
  lens : ∀ h ∈ hist, h.length = n
  mono : ∀ (m m' i : Nat) (a b : List Int) (x y : Int), m ≤ m' → hist[m]? = some a → hist[m']? = some b → a[i]? = some x → b[i]? = some y → numW x ≤ numW y ∧ (numW x = numW y → x = y)
  few : ∀ x ∈ ws, 0 ≤ numW x ∧ numW x < (hist.length : Int)
  floor : fl = [] ∨ ∃ m : Nat, hist[m]? = some fl
  flen : first.length = os.length
  alen : ah.length = os.length
  each : ∀ (q : Nat) (o : OpQ) (f : Nat) (a : List Int), os[q]? = some o → first[q]? = some f → ah[q]? = some a → SeenO n hist o f a

theorem get_more {α : Type} {l : List α} {x : α} (y : α) {i : Nat} (h : l[i]? = some x) : (l ++ [y])[i]? = some x := by rw [List.getElem?_append_left (lt_of_get h)]; exact h
theorem get_end {α : Type} (l : List α) (y : α) : (l ++ [y])[l.length]? = some y := by simp
theorem SeenO.more {n : Nat} {hist : List (List Int)} {o : OpQ} {f : Nat} {a : List Int} (h : SeenO n hist o f a) (y : List Int) : SeenO n (hist ++ [y]) o f a := by
  refine ⟨by have := h.lt; simp; omega, ?_, fun hk hp => ?_⟩
  · rcases h.ahead with e | ⟨m, hm, e⟩
    · exact .inl e
    · exact .inr ⟨m, hm, get_more y e⟩
  · obtain ⟨h1, h2, h3, h4⟩ := h.scan hk hp
    refine ⟨h1, h2, h3, fun hf => ?_⟩
    obtain ⟨s, hs, hsl, ha, hw⟩ := h4 hf
    refine ⟨s, hs, by simp; omega, fun j x hx => ?_, fun j x hx => ?_⟩
    · obtain ⟨m, b, hm, hb, hbx⟩ := ha j x hx
      exact ⟨m, b, hm, get_more y hb, hbx⟩
    · obtain ⟨m, b, hm, hb, hbx⟩ := hw j x hx
      exact ⟨m, b, hm, get_more y hb, hbx⟩
section
variable {n : Nat} {hist : List (List Int)} {ws : List Int} {os : List OpQ} {first : List Nat} {fl : List Int} {ah : List (List Int)}
theorem SeenQ.wlen (h : SeenQ n hist ws os first fl ah) : ws.length = n := h.lens ws (List.mem_of_getElem? h.last)
/-- one more moment -/
theorem SeenQ.turn {o : OpQ} (h : SeenQ n hist ws os first fl ah) (hok : OkQ n o) (hL : hist.length < 4294967296) :
    (∀ (i : Nat) (y : Int), (stepQW ws o)[i]? = some y → ∃ x, ws[i]? = some x ∧ (y = x ∨ numW y = numW x + 1)) := by
  intro i y hy
  unfold stepQW at hy
  split at hy
  · rename_i hc
    by_cases e : o.r.toNat = i
    · subst e
      have hl := lt_of_get hy
      rw [List.length_set] at hl
      rw [List.getElem?_set_self hl] at hy
      cases hy
      refine ⟨_, List.getElem?_eq_getElem hl, .inr ?_⟩
      have hg : ws[o.r.toNat]? = some o.saw := by
        rw [← hc.2.2]
        simp [List.getD, hl]
      have hx : ws[o.r.toNat] = o.saw := by
        have := List.getElem?_eq_getElem hl
        rw [hg] at this
        exact (Option.some.inj this).symm
      have hv : U32 o.v := by
        rcases hok with ⟨_, _, hv, _⟩ | ⟨hk, _⟩ | ⟨hk, _⟩
        · exact hv
        · omega
        · omega
      have hf := h.few o.saw (List.mem_of_getElem? hg)
      rw [hx, numW_after hv]
      omega
    · rw [List.getElem?_set_ne e] at hy
      exact ⟨y, hy, .inl rfl⟩
  · exact ⟨y, hy, .inl rfl⟩
theorem SeenQ.grow {o : OpQ} (h : SeenQ n hist ws os first fl ah) (hok : OkQ n o) (hL : hist.length < 4294967296) : SeenQ n (hist ++ [stepQW ws o]) (stepQW ws o) os first fl ah := by
  have ht := h.turn hok hL
  have hl : (stepQW ws o).length = n := (stepQW_length ws o).trans h.wlen
  refine ⟨by simp, by simp, fun a ha => ?_, fun m m' i a b x y hm hma hmb hx hy => ?_, fun y hy => ?_, ?_, h.flen, h.alen, fun q o' f a h1 h2 h3 => (h.each q o' f a h1 h2 h3).more _⟩
  · rcases List.mem_append.1 ha with ha | ha
    · exact h.lens a ha
    · simp at ha; subst ha; exact hl
  · rcases get_snoc hmb with ⟨hm', hmb⟩ | ⟨hm', rfl⟩
    · rcases get_snoc hma with ⟨_, hma⟩ | ⟨e, _⟩
      · exact h.mono m m' i a b x y hm hma hmb hx hy
      · omega
    · obtain ⟨x1, hx1, he⟩ := ht i y hy
      rcases get_snoc hma with ⟨hml, hma⟩ | ⟨_, rfl⟩
      · have h1 := h.mono m (hist.length - 1) i a ws x x1 (by omega) hma h.last hx hx1
        rcases he with rfl | he
        · exact h1
        · exact ⟨by omega, fun e => by omega⟩
      · rw [hx] at hy
        cases hy
        exact ⟨Int.le_refl _, fun _ => rfl⟩
  · obtain ⟨i, hi⟩ := List.getElem?_of_mem hy
    obtain ⟨x1, hx1, he⟩ := ht i y hi
    have hf := h.few x1 (List.mem_of_getElem? hx1)
    simp only [List.length_append, List.length_singleton]
    rcases he with rfl | he
    · exact ⟨hf.1, by omega⟩
    · omega
  · rcases h.floor with e | ⟨m, e⟩
    · exact .inl e
    · exact .inr ⟨m, get_more _ e⟩
/-- in a collect: what has been loaded, with what is loaded now -/
theorem seen_mid {q : Nat} {o : OpQ} {f f' : Nat} {a : List Int} {x : Int} (h : SeenQ n hist ws os first fl ah) (hq : os[q]? = some o) (hf : first[q]? = some f) (ha : ah[q]? = some a) (hk : o.k = 3) (hp : o.ph = 0) (hx : ws[o.lw.length]? = some x) (hw : stepQW ws o = ws) (hf' : f' = if f = 0 then hist.length else f) :
    ∃ s, f' ≤ s ∧ s < (hist ++ [ws]).length ∧ (∀ (j : Nat) (y : Int), o.la[j]? = some y → ∃ (m : Nat) (b : List Int), m ≤ s ∧ (hist ++ [ws])[m]? = some b ∧ b[j]? = some y) ∧ (∀ (j : Nat) (y : Int), (o.lw ++ [x])[j]? = some y → ∃ (m : Nat) (b : List Int), s ≤ m ∧ (hist ++ [ws])[m]? = some b ∧ b[j]? = some y) := by
  obtain ⟨h1, h2, h3, h4⟩ := (h.each q o f a hq hf ha).scan hk hp
  by_cases e : f = 0
  · rw [if_pos e] at hf'
    subst hf'
    obtain ⟨hla, hlw⟩ := h3 e
    refine ⟨hist.length, Nat.le_refl _, by simp, fun j y hy => ?_, fun j y hy => ?_⟩
    · rw [hla] at hy
      simp at hy
    · rw [hlw] at hy hx
      refine ⟨hist.length, ws, Nat.le_refl _, get_end _ _, ?_⟩
      rcases get_snoc hy with ⟨hj, _⟩ | ⟨hj, rfl⟩
      · simp at hj
      · rw [hj]; exact hx
  · rw [if_neg e] at hf'
    subst hf'
    obtain ⟨s, hs, hsl, hA, hW⟩ := h4 e
    refine ⟨s, hs, by simp; omega, fun j y hy => ?_, fun j y hy => ?_⟩
    · obtain ⟨m, b, hm, hb, hbx⟩ := hA j y hy
      exact ⟨m, b, hm, get_more _ hb, hbx⟩
    · rcases get_snoc hy with ⟨_, hy⟩ | ⟨hj, rfl⟩
      · obtain ⟨m, b, hm, hb, hbx⟩ := hW j y hy
        exact ⟨m, b, hm, get_more _ hb, hbx⟩
      · exact ⟨hist.length, ws, by omega, get_end _ _, by rw [hj]; exact hx⟩
theorem get_of_getD {l : List Int} {i : Nat} (h : i < l.length) : l[i]? = some (l.getD i 0) := by simp [List.getD, h]
theorem stepQ_scan {ws : List Int} {o : OpQ} (hk : o.k = 3) (hp : o.ph = 0) :
    stepQ ws o = if o.lw.length + 1 < ws.length then { o with lw := o.lw ++ [ws.getD o.lw.length 0] }
      else if o.lw ++ [ws.getD o.lw.length 0] = o.la ∨ (o.c : Int) + 1 = o.t then { o with ph := 2, c := o.c + 1, cl := decide (o.lw ++ [ws.getD o.lw.length 0] = o.la), xs := o.lw ++ [ws.getD o.lw.length 0] }
      else { o with c := o.c + 1, la := o.lw ++ [ws.getD o.lw.length 0], lw := [] } := by
  unfold stepQ
  rw [if_neg (by omega), if_neg (by omega), if_neg (by omega)]
/-- an action of one of them, its own part of what is seen -/
theorem seen_one {q : Nat} {o : OpQ} {f f' : Nat} {a : List Int} (h : SeenQ n hist ws os first fl ah) (hok : OkQ n o) (hq : os[q]? = some o) (hf : first[q]? = some f) (ha : ah[q]? = some a) (hf' : f' = if f = 0 then hist.length else f) :
    SeenO n (hist ++ [stepQW ws o]) (stepQ ws o) f' (if f = 0 then fl else a) := by
  have hS := h.each q o f a hq hf ha
  refine ⟨?_, ?_, fun hk hp => ?_⟩
  · have := hS.lt
    subst hf'
    simp
    split <;> omega
  · by_cases e : f = 0
    · rw [if_pos e] at hf' ⊢
      subst hf'
      rcases h.floor with e | ⟨m, e⟩
      · exact .inl e
      · exact .inr ⟨m, Nat.le_of_lt (lt_of_get e), get_more _ e⟩
    · rw [if_neg e] at hf' ⊢
      subst hf'
      exact (hS.more _).ahead
  · have hk3 : o.k = 3 := by rw [(stepQ_same ws o).1] at hk; exact hk
    have hp0 : o.ph = 0 := by
      rcases hok with ⟨e, _⟩ | ⟨e, _⟩ | ⟨_, _, _, _, _, _, _, h1⟩
      · omega
      · omega
      · by_cases e : o.ph = 2
        · rw [(stepQ_over (ws := ws) e).1] at hp
          omega
        · unfold stepQ at hp
          rw [if_neg e, if_neg (by omega), if_neg (by omega)] at hp
          split at hp
          · exact hp
          · split at hp
            · cases hp
            · exact hp
    have hw : stepQW ws o = ws := by unfold stepQW; rw [if_neg (by omega)]
    obtain ⟨h1, h2, h3, h4⟩ := hS.scan hk3 hp0
    have hx := get_of_getD (l := ws) (i := o.lw.length) (by rw [h.wlen]; exact h1)
    obtain ⟨s, hs, hsl, hA, hW⟩ := seen_mid h hq hf ha hk3 hp0 hx hw hf'
    have hwl := h.wlen
    have hf0 : f' ≠ 0 := by
      have := h.pos
      subst hf'
      split <;> omega
    rw [hw]
    rw [stepQ_scan hk3 hp0] at hp ⊢
    by_cases hm : o.lw.length + 1 < ws.length
    · rw [if_pos hm] at hp ⊢
      exact ⟨by simp; omega, h2, fun e => absurd e hf0, fun _ => ⟨s, hs, hsl, hA, hW⟩⟩
    · rw [if_neg hm] at hp ⊢
      by_cases he : o.lw ++ [ws.getD o.lw.length 0] = o.la ∨ (o.c : Int) + 1 = o.t
      · rw [if_pos he] at hp
        cases hp
      · rw [if_neg he]
        refine ⟨by simp; omega, .inr ⟨by simp; omega, by simp⟩, fun e => absurd e hf0, fun _ => ⟨hist.length, ?_, by simp, fun j y hy => ?_, fun j y hy => by simp at hy⟩⟩
        · have := hS.lt
          subst hf'
          split <;> omega
        · obtain ⟨m, b, hm1, hb, hbx⟩ := hW j y hy
          exact ⟨m, b, by have := lt_of_get hb; simp at this; omega, hb, hbx⟩
/-- an action of one of them -/
theorem seen_step {q : Nat} {o : OpQ} {f f' : Nat} {a : List Int} (h : SeenQ n hist ws os first fl ah) (hok : OkQ n o) (hL : hist.length < 4294967296) (hq : os[q]? = some o) (hf : first[q]? = some f) (ha : ah[q]? = some a) (hf' : f' = if f = 0 then hist.length else f) :
    SeenQ n (hist ++ [stepQW ws o]) (stepQW ws o) (os.set q (stepQ ws o)) (first.set q f') fl (ah.set q (if f = 0 then fl else a)) := by
  have hg := h.grow hok hL
  refine ⟨hg.last, hg.pos, hg.lens, hg.mono, hg.few, hg.floor, by simp [h.flen], by simp [h.alen], fun p o1 f1 a1 h1 h2 h3 => ?_⟩
  by_cases e : p = q
  · subst e
    rw [List.getElem?_set_self (lt_of_get hq)] at h1
    rw [List.getElem?_set_self (lt_of_get hf)] at h2
    rw [List.getElem?_set_self (lt_of_get ha)] at h3
    cases h1
    cases h2
    cases h3
    exact seen_one h hok hq hf ha hf'
  · rw [List.getElem?_set_ne (fun e' => e e'.symm)] at h1 h2 h3
    exact hg.each p o1 f1 a1 h1 h2 h3
/-- a scan that ends -/
theorem seen_end {q : Nat} {o : OpQ} {f f' : Nat} {a : List Int} (h : SeenQ n hist ws os first fl ah) (hok : OkQ n o) (hL : hist.length < 4294967296) (hq : os[q]? = some o) (hf : first[q]? = some f) (ha : ah[q]? = some a) (hf' : f' = if f = 0 then hist.length else f)
    (hk : o.k = 3) (hle : o.ph ≤ 2) (hp : o.ph ≠ 2) (hend : (stepQ ws o).ph = 2) :
    (stepQ ws o).xs.length = n ∧ ((stepQ ws o).cl = false → ((stepQ ws o).c : Int) = o.t) ∧ ((stepQ ws o).cl = true → 2 ≤ (stepQ ws o).c ∧ ∃ s, f' ≤ s ∧ (hist ++ [stepQW ws o])[s]? = some (stepQ ws o).xs) := by
  have hp0 : o.ph = 0 := by
    rcases hok with ⟨e, _⟩ | ⟨e, _⟩ | ⟨_, _, _, _, _, _, _, h1⟩
    · omega
    · omega
    · omega
  have hw : stepQW ws o = ws := by unfold stepQW; rw [if_neg (by omega)]
  obtain ⟨h1, h2, h3, h4⟩ := (h.each q o f a hq hf ha).scan hk hp0
  have hwl := h.wlen
  have hx := get_of_getD (l := ws) (i := o.lw.length) (by rw [hwl]; exact h1)
  obtain ⟨s, hs, hsl, hA, hW⟩ := seen_mid h hq hf ha hk hp0 hx hw hf'
  have hg := h.grow hok hL
  rw [hw] at hg ⊢
  rw [stepQ_scan hk hp0] at hend ⊢
  by_cases hm : o.lw.length + 1 < ws.length
  · rw [if_pos hm] at hend
    exact absurd hend hp
  · rw [if_neg hm] at hend ⊢
    by_cases he : o.lw ++ [ws.getD o.lw.length 0] = o.la ∨ (o.c : Int) + 1 = o.t
    · rw [if_pos he]
      refine ⟨by simp; omega, fun hc => ?_, fun hc => ?_⟩
      · simp only [decide_eq_false_iff_not] at hc
        rcases he with e | e
        · exact absurd e hc
        · simpa using e
      · simp only [decide_eq_true_eq] at hc
        have hc1 : 1 ≤ o.c := by
          rcases h2 with ⟨e, _⟩ | ⟨_, e⟩
          · rw [e] at hc; simp at hc
          · exact e
        refine ⟨by simp; omega, s, hs, ?_⟩
        obtain ⟨b, hb⟩ : ∃ b, (hist ++ [ws])[s]? = some b := ⟨_, List.getElem?_eq_getElem hsl⟩
        rw [hb]
        have hbl := hg.lens b (List.mem_of_getElem? hb)
        congr 1
        refine List.ext_getElem? fun i => ?_
        by_cases hi : i < n
        · obtain ⟨y, hy⟩ : ∃ y, b[i]? = some y := ⟨_, List.getElem?_eq_getElem (by omega)⟩
          obtain ⟨z, hz⟩ : ∃ z, (o.lw ++ [ws.getD o.lw.length 0])[i]? = some z := ⟨_, List.getElem?_eq_getElem (by simp; omega)⟩
          have hz' : o.la[i]? = some z := by rw [← hc]; exact hz
          obtain ⟨m1, b1, hm1, hb1, hz1⟩ := hA i z hz'
          obtain ⟨m2, b2, hm2, hb2, hz2⟩ := hW i z hz
          have e1 := hg.mono m1 s i b1 b z y hm1 hb1 hb hz1 hy
          have e2 := hg.mono s m2 i b b2 y z hm2 hb hb2 hy hz2
          rw [hy, hz, e2.2 (by omega)]
        · rw [List.getElem?_eq_none (by omega), List.getElem?_eq_none (by simp; omega)]
    · rw [if_neg he] at hend
      exact absurd hend hp
/-- numbers rise -/
def RiseQ (a b : List Int) : Prop := ∀ (i : Nat) (x y : Int), a[i]? = some x → b[i]? = some y → numW x ≤ numW y
theorem SeenQ.rise {m s : Nat} {a b : List Int} (h : SeenQ n hist ws os first fl ah) (hm : m ≤ s) (ha : hist[m]? = some a) (hb : hist[s]? = some b) : RiseQ a b := fun i x y hx hy => (h.mono m s i a b x y hm ha hb hx hy).1
theorem SeenQ.floorSet {s : Nat} {xs : List Int} (h : SeenQ n hist ws os first fl ah) (hs : hist[s]? = some xs) : SeenQ n hist ws os first xs ah := ⟨h.last, h.pos, h.lens, h.mono, h.few, .inr ⟨s, hs⟩, h.flen, h.alen, h.each⟩
theorem seen_begin {ops : List (Int × Int × Int × Int)} (hn : 1 ≤ n) : SeenQ n [List.replicate n 0] (List.replicate n 0) (pickQ n ops) (List.replicate (pickQ n ops).length 0) [] (List.replicate (pickQ n ops).length []) := by
  refine ⟨rfl, by simp, fun a ha => ?_, fun m m' i a b x y hm hma hmb hx hy => ?_, fun x hx => ?_, .inl rfl, by simp, by simp, fun q o f a h1 h2 h3 => ?_⟩
  · simp at ha; subst ha; simp
  · have h1 := lt_of_get hma
    have h2 := lt_of_get hmb
    simp at h1 h2
    subst h1
    subst h2
    rw [hma] at hmb
    cases hmb
    rw [hx] at hy
    cases hy
    exact ⟨Int.le_refl _, fun _ => rfl⟩
  · rw [List.eq_of_mem_replicate hx]
    exact ⟨by decide, by simp [numW]⟩
  · have hf : f = 0 := List.eq_of_mem_replicate (List.mem_of_getElem? h2)
    have ha : a = [] := List.eq_of_mem_replicate (List.mem_of_getElem? h3)
    subst hf
    refine ⟨by simp, .inl ha, fun _ _ => ?_⟩
    have ho := List.mem_of_getElem? h1
    unfold pickQ at ho
    obtain ⟨op, _, he⟩ := List.mem_filterMap.1 ho
    split at he
    · cases he
      exact ⟨by simp [newQ]; omega, .inl ⟨rfl, rfl⟩, fun _ => ⟨rfl, rfl⟩, fun e => absurd rfl e⟩
    · cases he
end
end Go.Proofs.Ytdadgppbpomdoaa
