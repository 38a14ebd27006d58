/- WAITERS IN THE ORDER OF THEIR TICKETS. -/
import Derived.Test.YtfagioamfceggaaNh
namespace Go.Proofs.Ytfagioamfceggaa
open Go Go.RowKit

theorem count_set : ∀ {l : List Bool} {v : Nat}, l[v]? = some false → (l.set v true).count true = l.count true + 1
  | [], v, h => by simp at h
  | a :: l, 0, h => by simp at h; subst h; simp
  | a :: l, v + 1, h => by
    simp at h
    have := count_set (l := l) h
    simp only [List.set_cons_succ, List.count_cons, this]
    omega
/-- n workers: what was drawn and given back, who has drawn, and in which order -/
structure OrdN (pl : Int) (n : Nat) (d g : Int) (os : List OpS) (dr : List Bool) (qu : List Nat) : Prop where
  len : os.length = n
  ldr : dr.length = n
  num : d = (qu.length : Int)
  giv : 0 ≤ g ∧ g ≤ d
  nodup : qu.Nodup
  mem : ∀ v ∈ qu, v < n
  flag : ∀ (v : Nat) (b : Bool), dr[v]? = some b → (b = true ↔ v ∈ qu)
  cnt : dr.count true = qu.length
  out : ∀ (v : Nat) (o : OpS), os[v]? = some o → v ∉ qu → o = newS 1
  in_ : ∀ (i v : Nat) (o : OpS), qu[i]? = some v → os[v]? = some o → o.k = 1 ∧ o.a = (i : Int) ∧ (o.ph = 1 ∨ (o.ph = 9 ∧ (i : Int) < pl + g))
section
variable {pl d g : Int} {n v i : Nat} {os : List OpS} {dr : List Bool} {qu : List Nat} {o : OpS}
theorem OrdN.few (h : OrdN pl n d g os dr qu) : qu.length ≤ n := by
  rw [← h.cnt, ← h.ldr]
  exact List.count_le_length
theorem OrdN.start : OrdN pl n 0 0 (List.replicate n (newS 1)) (List.replicate n false) [] :=
  ⟨by simp, by simp, rfl, by omega, by simp, by simp, fun v b h => by rw [List.getElem?_replicate] at h; split at h <;> simp_all, by rw [List.count_replicate]; simp, fun v o h _ => by rw [List.getElem?_replicate] at h; split at h <;> simp_all, by simp⟩
theorem get_set_ne {α : Type} {l : List α} {x y : Nat} {a : α} (h : x ≠ y) : (l.set x a)[y]? = l[y]? := List.getElem?_set_ne h
/-- who has not drawn draws -/
theorem OrdN.draw (h : OrdN pl n d g os dr qu) (ho : os[v]? = some o) (hd : dr[v]? = some false) : o = newS 1 ∧ OrdN pl n (d + 1) g (os.set v ⟨1, 1, d, 0, 0, 0⟩) (dr.set v true) (qu ++ [v]) := by
  have hv : v ∉ qu := fun hm => by have := (h.flag v false hd).2 hm; cases this
  refine ⟨h.out v o ho hv, by rw [List.length_set]; exact h.len, by rw [List.length_set]; exact h.ldr, by rw [List.length_append, List.length_singleton]; have := h.num; omega, by have := h.giv; omega, ?_, fun x hx => ?_, fun x b hx => ?_, by rw [count_set hd, h.cnt, List.length_append, List.length_singleton], fun x y hx hn => ?_, fun i x y hi hx => ?_⟩
  · rw [List.nodup_append]
    refine ⟨h.nodup, by simp, fun a ha c hc => ?_⟩
    simp at hc
    subst hc
    rintro rfl
    exact hv ha
  · rcases List.mem_append.1 hx with hx | hx
    · exact h.mem x hx
    · simp at hx; subst hx; rw [← h.len]; exact lt_of_get ho
  · by_cases e : v = x
    · subst e
      rw [List.getElem?_set_self (lt_of_get hd)] at hx
      cases hx
      simp
    · rw [get_set_ne e] at hx
      rw [h.flag x b hx]
      simp
      intro e'
      exact absurd e'.symm e
  · have e : v ≠ x := fun e => hn (by subst e; simp)
    rw [get_set_ne e] at hx
    exact h.out x y hx (fun hm => hn (by simp [hm]))
  · by_cases hq : i < qu.length
    · rw [List.getElem?_append_left hq] at hi
      have e : v ≠ x := fun e => hv (by subst e; exact List.mem_of_getElem? hi)
      rw [get_set_ne e] at hx
      exact h.in_ i x y hi hx
    · have h1 := lt_of_get hi
      simp at h1
      have e : i = qu.length := by omega
      subst e
      rw [List.getElem?_append_right (Nat.le_refl _)] at hi
      simp at hi
      subst hi
      rw [List.getElem?_set_self (lt_of_get ho)] at hx
      cases hx
      exact ⟨rfl, h.num, .inl rfl⟩
/-- who has drawn looks -/
theorem OrdN.look (h : OrdN pl n d g os dr qu) (hpl : 0 ≤ pl ∧ pl ≤ 1000) (hn : n ≤ 1000) (hi : qu[i]? = some v) (ho : os[v]? = some o) : OrdN pl n d g (os.set v (stepS pl d g o)) dr qu ∧ stepD d o = d ∧ stepG g o = g ∧ ((stepS pl d g o).ph = 9 ↔ (i : Int) < pl + g) := by
  obtain ⟨hk, ha, hph⟩ := h.in_ i v o hi ho
  have hf := h.few
  have hnum := h.num
  have hgiv := h.giv
  have hw : IntKind.u64.wrap (pl + g) = pl + g := by rw [IntKind.wrap_u64]; omega
  have hst : (stepS pl d g o).k = 1 ∧ (stepS pl d g o).a = (i : Int) ∧ ((stepS pl d g o).ph = 1 ∨ ((stepS pl d g o).ph = 9 ∧ (i : Int) < pl + g)) ∧ ((stepS pl d g o).ph = 9 ↔ (i : Int) < pl + g) := by
    rcases hph with p | ⟨p, hlt⟩
    · unfold stepS
      rw [if_neg (by omega), if_pos p, if_pos hk, hw, ha]
      by_cases hlt : (i : Int) < pl + g
      · rw [if_pos hlt]; exact ⟨hk, rfl, .inr ⟨rfl, hlt⟩, by simp [hlt]⟩
      · rw [if_neg hlt]; exact ⟨hk, ha, .inl p, by rw [p]; simp [hlt]⟩
    · have e : stepS pl d g o = o := by unfold stepS; rw [if_neg (by omega), if_neg (by omega), if_neg (by omega)]
      rw [e]
      exact ⟨hk, ha, .inr ⟨p, hlt⟩, by simp [p, hlt]⟩
  refine ⟨⟨by rw [List.length_set]; exact h.len, h.ldr, h.num, h.giv, h.nodup, h.mem, h.flag, h.cnt, fun x y hx hn' => ?_, fun j x y hj hx => ?_⟩, ?_, ?_, hst.2.2.2⟩
  · have e : v ≠ x := fun e => hn' (by subst e; exact List.mem_of_getElem? hi)
    rw [get_set_ne e] at hx
    exact h.out x y hx hn'
  · by_cases e : v = x
    · subst e
      have : j = i := (List.getElem?_inj (lt_of_get hj) h.nodup).1 (hj.trans hi.symm)
      subst this
      rw [List.getElem?_set_self (lt_of_get ho)] at hx
      cases hx
      exact ⟨hst.1, hst.2.1, hst.2.2.1⟩
    · rw [get_set_ne e] at hx
      exact h.in_ j x y hj hx
  · unfold stepD; rw [if_neg (by omega), if_neg (by omega)]
  · unfold stepG; rw [if_neg (by omega)]
/-- a place is given back -/
theorem OrdN.back (h : OrdN pl n d g os dr qu) (hlt : g < d) : OrdN pl n d (g + 1) os dr qu :=
  ⟨h.len, h.ldr, h.num, by have := h.giv; omega, h.nodup, h.mem, h.flag, h.cnt, h.out, fun i v o hi ho => by
    obtain ⟨a, b, c⟩ := h.in_ i v o hi ho
    refine ⟨a, b, ?_⟩
    rcases c with c | ⟨c, e⟩
    · exact .inl c
    · exact .inr ⟨c, by omega⟩⟩
end
theorem up_small {x : Int} (h0 : 0 ≤ x) (h1 : x ≤ 1000000) : up x = x + 1 := by unfold up; rw [IntKind.wrap_u64]; omega
def boolsS (dr : List Bool) : List Value := dr.map .bool
theorem boolsS_get {dr : List Bool} {i : Nat} {b : Bool} (h : dr[i]? = some b) : (boolsS dr)[i]? = some (.bool b) := by simp [boolsS, h]
theorem boolsS_set (dr : List Bool) (q : Nat) : (boolsS dr).set q (.bool true) = boolsS (dr.set q true) := by simp [boolsS, List.map_set]
theorem boolsS_none (n : Nat) : (madeCells (Value.bool false).cells (n * 1)).toList = boolsS (List.replicate n false) := by
  have e : (Value.bool false).cells = #[.bool false] := rfl
  rw [e, Nat.mul_one, toList_madeCells_one]
  unfold boolsS
  rw [List.map_replicate]
def quV (qu : List Nat) : List Value := qu.map fun (v : Nat) => Value.int .i64 (v : Int)
theorem quV_get {qu : List Nat} {i v : Nat} (h : qu[i]? = some v) : (quV qu)[i]? = some (.int .i64 (v : Int)) := by simp [quV, h]
theorem quV_snoc (qu : List Nat) (v : Nat) : quV qu ++ [.int .i64 (v : Int)] = quV (qu ++ [v]) := by simp [quV]
theorem infoBS : (Try.prog.info? 4).map (fun i => (i.zero, i.size, i.bytes)) = some (some (.bool false), 1, 1) := by kernel_rfl
theorem infoIS : (Try.prog.info? 3).map (fun i => (i.zero, i.size, i.bytes)) = some (some (.int .i64 0), 1, 8) := by kernel_rfl
theorem infoPS : (Try.prog.info? 35).map (fun i => (i.zero, i.size, i.bytes)) = some (some (.pointer none), 1, 8) := by kernel_rfl
theorem one_i64 (x : Int) : ∀ u ∈ [Value.int .i64 x], u.oneCell' = true := by intro u hu; simp at hu; subst hu; rfl
theorem below_alloc {w : World} (o : Obj) : Below w.heap.size w (w.alloc o) := (Below.refl _ _).alloc (Nat.le_refl _) o
section
variable {W w w1 : World} {bsem bk bw : Nat} {pl d g : Int} {os : List OpS} {bs : List Nat} {vp : Value}
/-- the list of numbers grows -/
theorem CrowdS.grow {n : Nat} {vq : Value} {xs : List Value} {ob : Obj} (h : CrowdS W bsem bk bw pl d g os bs vp w) (ho : w.ownsRow W.heap.size 3 1 vq n xs) (hg : (w.alloc ob).grownBy w1 vq.ownBlock) : CrowdS W bsem bk bw pl d g os bs vp w1 := by
  have ha := h.on (below_alloc ob)
  obtain ⟨a, c, rfl⟩ := own_form ho
  cases a with
  | none => exact ha.on ((Below.refl _ _).grown hg (Nat.le_refl _) (by simp [Value.ownBlock]))
  | some ad =>
    obtain ⟨g', c', hv, _, _⟩ | hn : (∃ g' c', Value.slice (some ad) n c = .slice (some ⟨g', 0, none⟩) n c' ∧ True ∧ True) ∨ False := by
      rcases ho.2 with ⟨hv, _⟩ | ⟨g', cap, cur, hv, _⟩
      · cases hv
      · exact .inl ⟨g', cap, hv, trivial, trivial⟩
    · cases hv
      exact ha.off (ho.alloc ob) (.inr rfl) (Part.grown (Part.refl [g'] _) hg (fun k hk _ => by cases hk; simp))
    · exact hn.elim
end
end Go.Proofs.Ytfagioamfceggaa
