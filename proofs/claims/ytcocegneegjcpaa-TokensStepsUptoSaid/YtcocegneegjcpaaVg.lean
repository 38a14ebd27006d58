/- OPERATIONS OF A BUCKET AND THE DOCUMENT'S OWN, SIDE BY SIDE. -/
import Derived.Test.YtcocegneegjcpaaVc
import Derived.Test.YtcocegneegjcpaaTy
namespace Go.Proofs.Ytcocegneegjcpaa
open Go Go.RowKit

/-- the cells of the document's own list -/
def undCells (us : List (OpT × Int)) : List Value := us.flatMap fun p => undL p.1 p.2
theorem undL_length (o : OpT) (s : Int) : (undL o s).length = 9 := rfl
theorem undCells_snoc (us : List (OpT × Int)) (o : OpT) (s : Int) : undCells us ++ undL o s = undCells (us ++ [(o, s)]) := by simp [undCells]
theorem undCells_get {us : List (OpT × Int)} : ∀ {q : Nat} {p : OpT × Int}, us[q]? = some p → ∀ j, j < 9 → (undCells us)[q * 9 + j]? = (undL p.1 p.2)[j]? := by
  induction us with
  | nil => intro q p h; simp at h
  | cons a us ih =>
    intro q p h j hj
    have e : undCells (a :: us) = undL a.1 a.2 ++ undCells us := rfl
    rw [e]
    cases q with
    | zero => simp at h; subst h; rw [List.getElem?_append_left (by rw [undL_length]; omega)]; simp
    | succ q =>
      simp at h
      rw [List.getElem?_append_right (by rw [undL_length]; omega), undL_length]
      have e1 : (q + 1) * 9 + j - 9 = q * 9 + j := by omega
      rw [e1]
      exact ih h j hj
theorem app_set {a l : List Value} {m : Nat} {v : Value} (ha : a.length = 9) : (a ++ l).set (m + 9) v = a ++ l.set m v := by
  rw [List.set_append, if_neg (by omega)]
  congr 2
  omega
theorem undCells_set {us : List (OpT × Int)} {o : OpT} {s : Int} : ∀ {q : Nat} {p : OpT × Int}, us[q]? = some p →
    ((((((((((undCells us).set (q * 9) (.int .u8 o.k)).set (q * 9 + 1) (.int .i64 o.t)).set (q * 9 + 2) (.int .i64 o.n)).set (q * 9 + 3) (.bool (decide (o.ph = 1)))).set (q * 9 + 4) (.int .i64 s)).set (q * 9 + 5) (.bool (decide (o.ph = 2)))).set (q * 9 + 6) (.bool o.ok)).set (q * 9 + 7) (.int .i64 o.wait)).set (q * 9 + 8) (.int .i64 o.left)) = undCells (us.set q (o, s)) := by
  induction us with
  | nil => intro q p h; simp at h
  | cons a us ih =>
    intro q p h
    have e : undCells (a :: us) = undL a.1 a.2 ++ undCells us := rfl
    rw [e]
    cases q with
    | zero => simp at h; subst h; simp [undCells, undL]
    | succ q =>
      simp at h
      have e0 : (q + 1) * 9 = q * 9 + 9 := by omega
      have e1 : (q + 1) * 9 + 1 = q * 9 + 1 + 9 := by omega
      have e2 : (q + 1) * 9 + 2 = q * 9 + 2 + 9 := by omega
      have e3 : (q + 1) * 9 + 3 = q * 9 + 3 + 9 := by omega
      have e4 : (q + 1) * 9 + 4 = q * 9 + 4 + 9 := by omega
      have e5 : (q + 1) * 9 + 5 = q * 9 + 5 + 9 := by omega
      have e6 : (q + 1) * 9 + 6 = q * 9 + 6 + 9 := by omega
      have e7 : (q + 1) * 9 + 7 = q * 9 + 7 + 9 := by omega
      have e8 : (q + 1) * 9 + 8 = q * 9 + 8 + 9 := by omega
      rw [e8, e7, e6, e5, e4, e3, e2, e1, e0, app_set (undL_length a.1 a.2), app_set (undL_length a.1 a.2), app_set (undL_length a.1 a.2), app_set (undL_length a.1 a.2), app_set (undL_length a.1 a.2), app_set (undL_length a.1 a.2), app_set (undL_length a.1 a.2), app_set (undL_length a.1 a.2), app_set (undL_length a.1 a.2)]
      rw [ih h]
      rfl
theorem und_nine (o : OpT) (s : Int) : ∀ u ∈ undL o s, u.oneCell' = true := by
  intro u hu
  simp [undL] at hu
  rcases hu with rfl | rfl | rfl | rfl | rfl | rfl | rfl | rfl | rfl <;> rfl
theorem infoU : (Try.prog.info? 102).map (fun i => (i.zero, i.size, i.bytes)) = some (some (.agg #[.int .u8 0, .int .i64 0, .int .i64 0, .bool false, .int .i64 0, .bool false, .bool false, .int .i64 0, .int .i64 0]), 9, 72) := by kernel_rfl
/-- nine stores -/
def undSet (w : World) (g i : Nat) (o : OpT) (s : Int) : World := (((((((((w.setCell ⟨g, i, none⟩ (.int .u8 o.k)).setCell ⟨g, i + 1, none⟩ (.int .i64 o.t)).setCell ⟨g, i + 2, none⟩ (.int .i64 o.n)).setCell ⟨g, i + 3, none⟩ (.bool (decide (o.ph = 1)))).setCell ⟨g, i + 4, none⟩ (.int .i64 s)).setCell ⟨g, i + 5, none⟩ (.bool (decide (o.ph = 2)))).setCell ⟨g, i + 6, none⟩ (.bool o.ok)).setCell ⟨g, i + 7, none⟩ (.int .i64 o.wait)).setCell ⟨g, i + 8, none⟩ (.int .i64 o.left))
section
variable {w : World} {base g n c q : Nat} {us : List (OpT × Int)} {o : OpT} {s : Int}
theorem und_cells (h : w.ownsRow base 102 9 (.slice (some ⟨g, 0, none⟩) n c) n (undCells us)) (hp : us[q]? = some (o, s)) :
    w.cell? ⟨g, q * 9, none⟩ = some (.int .u8 o.k) ∧ w.cell? ⟨g, q * 9 + 1, none⟩ = some (.int .i64 o.t) ∧ w.cell? ⟨g, q * 9 + 2, none⟩ = some (.int .i64 o.n) ∧ w.cell? ⟨g, q * 9 + 3, none⟩ = some (.bool (decide (o.ph = 1))) ∧ w.cell? ⟨g, q * 9 + 4, none⟩ = some (.int .i64 s) ∧ w.cell? ⟨g, q * 9 + 5, none⟩ = some (.bool (decide (o.ph = 2))) ∧ w.cell? ⟨g, q * 9 + 6, none⟩ = some (.bool o.ok) ∧ w.cell? ⟨g, q * 9 + 7, none⟩ = some (.int .i64 o.wait) ∧ w.cell? ⟨g, q * 9 + 8, none⟩ = some (.int .i64 o.left) :=
  ⟨by simpa using own_cell h ((undCells_get hp 0 (by omega)).trans rfl), own_cell h ((undCells_get hp 1 (by omega)).trans rfl), own_cell h ((undCells_get hp 2 (by omega)).trans rfl), own_cell h ((undCells_get hp 3 (by omega)).trans rfl), own_cell h ((undCells_get hp 4 (by omega)).trans rfl), own_cell h ((undCells_get hp 5 (by omega)).trans rfl), own_cell h ((undCells_get hp 6 (by omega)).trans rfl), own_cell h ((undCells_get hp 7 (by omega)).trans rfl), own_cell h ((undCells_get hp 8 (by omega)).trans rfl)⟩
theorem und_stored {p : OpT × Int} (h : w.ownsRow base 102 9 (.slice (some ⟨g, 0, none⟩) n c) n (undCells us)) (hp : us[q]? = some p) :
    (undSet w g (q * 9) o s).ownsRow base 102 9 (.slice (some ⟨g, 0, none⟩) n c) n (undCells (us.set q (o, s))) := by
  have h0 := (h.stored (q * 9) (.int .u8 o.k)).1
  have h1 := (h0.stored (q * 9 + 1) (.int .i64 o.t)).1
  have h2 := (h1.stored (q * 9 + 2) (.int .i64 o.n)).1
  have h3 := (h2.stored (q * 9 + 3) (.bool (decide (o.ph = 1)))).1
  have h4 := (h3.stored (q * 9 + 4) (.int .i64 s)).1
  have h5 := (h4.stored (q * 9 + 5) (.bool (decide (o.ph = 2)))).1
  have h6 := (h5.stored (q * 9 + 6) (.bool o.ok)).1
  have h7 := (h6.stored (q * 9 + 7) (.int .i64 o.wait)).1
  have h8 := (h7.stored (q * 9 + 8) (.int .i64 o.left)).1
  rw [undCells_set hp] at h8
  exact h8
theorem und_part (w : World) (g i : Nat) (o : OpT) (s : Int) : Part [g] w (undSet w g i o s) :=
  (((((((((Part.refl [g] w).set (by simp) (.int .u8 o.k)).set (by simp) (.int .i64 o.t)).set (by simp) (.int .i64 o.n)).set (by simp) (.bool (decide (o.ph = 1)))).set (by simp) (.int .i64 s)).set (by simp) (.bool (decide (o.ph = 2)))).set (by simp) (.bool o.ok)).set (by simp) (.int .i64 o.wait)).set (by simp) (.int .i64 o.left)
end

theorem PendsT.snoc2 {w : World} {lo bt : Nat} {ev bu : Int} {os : List OpT} {bs : List Nat} {o : OpT} {b : Nat} (h : PendsT w lo bt ev bu os bs) (hr : Row w b 140 (opTL bt o)) (hn : b ∉ bs) (hlo : lo ≤ b) (ho : OkT ev bu o) :
    PendsT w lo bt ev bu (os ++ [o]) (bs ++ [b]) := by
  refine ⟨by simp [h.len], fun q o' b' ho' hb' => ?_, ?_, fun x hx => ?_, fun x hx => ?_⟩
  · by_cases hq : q < os.length
    · rw [List.getElem?_append_left hq] at ho'
      rw [List.getElem?_append_left (by rw [h.len]; exact hq)] at hb'
      exact h.row q o' b' ho' hb'
    · rw [List.getElem?_append_right (by omega)] at ho'
      rw [List.getElem?_append_right (by rw [h.len]; omega)] at hb'
      have hq0 : q - os.length = 0 := by have := lt_of_get ho'; simp at this; omega
      have hq1 : q - bs.length = 0 := by rw [h.len]; exact hq0
      rw [hq0] at ho'
      rw [hq1] at hb'
      simp at ho' hb'
      subst ho'
      subst hb'
      exact hr
  · rw [List.nodup_append]
    refine ⟨h.nodup, by simp, fun x hx y hy => ?_⟩
    simp at hy
    subst hy
    exact fun e => hn (e ▸ hx)
  · rw [List.mem_append] at hx
    rcases hx with hx | hx
    · exact h.lo x hx
    · simp at hx; subst hx; exact hlo
  · rw [List.mem_append] at hx
    rcases hx with hx | hx
    · exact h.ok x hx
    · simp at hx; subst hx; exact ho
/-- the operations, and the document's own of them -/
structure BothT (W : World) (bt bk bw : Nat) (ev bu T : Int) (us : List (OpT × Int)) (bs : List Nat) (vp vu : Value) (wr : World) : Prop where
  many : ManyT W bt bk bw ev bu T (us.map (·.1)) bs vp wr
  und : wr.ownsRow W.heap.size 102 9 vu bs.length (undCells us)
  saw : ∀ p, p ∈ us → SawT p.1 p.2
section
variable {W wr w1 w2 w5 w6 w7 : World} {bt bk bw : Nat} {ev bu T T' : Int} {us : List (OpT × Int)} {os : List OpT} {bs : List Nat} {vp vu vp' vu' : Value} {q : Nat}
theorem ManyT.part {S : List Nat} (h : ManyT W bt bk bw ev bu T os bs vp wr) (hP : Part S wr w1) (hS : ∀ x, x ∈ S → W.heap.size ≤ x) (n1 : bt ∉ S) (n2 : bk ∉ S) (n3 : bw ∉ S) (n4 : ∀ r, vp.ownBlock = some r → r ∉ S) (n5 : ∀ b, b ∈ bs → b ∉ S) : ManyT W bt bk bw ev bu T os bs vp w1 :=
  ⟨⟨h.one.buck.part hP n1 n2 n3, h.one.lo, h.low.trans (hP.below h.low.size hS)⟩, own_part h.ps hP n4, h.pends.part hP n5⟩
theorem BothT.on (h : BothT W bt bk bw ev bu T us bs vp vu wr) (hb : Below wr.heap.size wr w1) : BothT W bt bk bw ev bu T us bs vp vu w1 := ⟨h.many.on hb, own_part h.und (Part.of_below hb (Nat.le_refl _) []) (by simp), h.saw⟩
theorem BothT.alloc (h : BothT W bt bk bw ev bu T us bs vp vu wr) (o : Obj) : BothT W bt bk bw ev bu T us bs vp vu (wr.alloc o) := h.on ((Below.refl _ _).alloc (Nat.le_refl _) o)
theorem BothT.drew (h : BothT W bt bk bw ev bu T us bs vp vu wr) : BothT W bt bk bw ev bu T us bs vp vu wr.drew := h.on (Below.refl _ _).drew
theorem BothT.nil (h : OneT W bt bk bw ev bu T wr) : BothT W bt bk bw ev bu T [] [] (.slice none 0 0) (.slice none 0 0) wr := ⟨ManyT.nil h, ⟨rfl, .inl ⟨rfl, rfl⟩⟩, by simp⟩
theorem BothT.grow {k t n : Int} {bp : Nat} {ob ob' : Obj} (h : BothT W bt bk bw ev bu T us bs vp vu wr) (hb5 : Below wr.heap.size wr w5) (hr5 : Row w5 bp 140 (opTL bt (newO k t n))) (hn : wr.heap.size ≤ bp) (ho : RightT k t n)
    (h6 : w6.ownsRow W.heap.size 102 9 vu' (bs.length + 1) (undCells us ++ undL (newO k t n) 0)) (hg6 : (w5.alloc ob).grownBy w6 vu.ownBlock)
    (h7 : w7.ownsRow W.heap.size 92 1 vp' (bs.length + 1) (ptrs bs ++ [.pointer (some ⟨bp, 0, none⟩)])) (hg7 : (w6.alloc ob').grownBy w7 vp.ownBlock) :
    BothT W bt bk bw ev bu T (us ++ [(newO k t n, 0)]) (bs ++ [bp]) vp' vu' w7 := by
  have hnot : bp ∉ bs := fun hm => by have := h.many.pends.lt bp hm; omega
  have hlow : W.heap.size ≤ bp := Nat.le_trans h.many.low.size hn
  have h5 := (h.on hb5).alloc ob
  have m6 : ManyT W bt bk bw ev bu T (us.map (·.1)) bs vp w6 := h5.many.grown h5.und (Nat.le_refl _) hg6 (by decide) (by decide) (by decide) (by decide) (by decide)
  have r6 : Row w6 bp 140 (opTL bt (newO k t n)) := (hr5.alloc ob).grown hg6 (own_not_in h5.und (hr5.alloc ob) (by decide))
  have m6' := m6.alloc ob'
  have r6' := r6.alloc ob'
  have p6 := m6'.pends.snoc2 r6' hnot hlow (OkT.new (ev := ev) (bu := bu) ho)
  have b := m6'.one.buck
  have u6' := h6.alloc ob'
  have hm : (us ++ [(newO k t n, (0 : Int))]).map (·.1) = us.map (·.1) ++ [newO k t n] := by simp
  refine ⟨?_, ?_, fun p hp => ?_⟩
  · rw [hm]
    refine ⟨⟨⟨b.head.grown hg7 (own_not_in m6'.ps b.head (by decide)), ⟨b.words.head.grown hg7 (own_not_in m6'.ps b.words.head (by decide)), b.words.row.grown hg7 (own_not_in m6'.ps b.words.row (by decide)), b.words.few, b.words.ok⟩, b.fits, b.lo, b.hi⟩, m6'.one.lo, m6'.low.grown hg7 m6'.low.size (own_from m6'.ps)⟩, ?_, p6.grown hg7 (fun x l hx => own_not_in m6'.ps hx (by decide))⟩
    rw [List.length_append, List.length_singleton, ← ptrs_snoc]
    exact h7
  · rw [List.length_append, List.length_singleton, ← undCells_snoc]
    exact u6'.kept hg7 (own_apart u6' m6'.ps (by decide))
  · rw [List.mem_append] at hp
    rcases hp with hp | hp
    · exact h.saw p hp
    · simp at hp; subst hp; exact ⟨by simp, by simp, by simp [newO]⟩
/-- the code's operation has been stepped, the document's not yet -/
theorem BothT.stepped {b : Nat} {o o' : OpT} {s s' : Int} {v : Value} {e : Ending} (h : BothT W bt bk bw ev bu T us bs vp vu wr) (hq : us[q]? = some (o, s)) (hb : bs[q]? = some b) (hs : StepsT wr bt bk bw b ev bu T' o' v e w2) (hok : OkT ev bu o') :
    ManyT W bt bk bw ev bu T' ((us.set q (o', s')).map (·.1)) bs vp w2 ∧ w2.ownsRow W.heap.size 102 9 vu bs.length (undCells us) := by
  obtain ⟨_, hB, hR, hP⟩ := hs
  have ho : (us.map (·.1))[q]? = some o := by simp [hq]
  have hrow := h.many.pends.row q o b ho hb
  refine ⟨?_, own_part h.und hP (fun r hr => by simp; exact ⟨own_off h.und h.many.one.buck.words.row (by decide) r hr, own_off h.und hrow (by decide) r hr⟩)⟩
  rw [List.map_set]
  exact h.many.step hb hB hR hP hok
/-- and now the document's own -/
theorem BothT.both {k : Nat} {o' : OpT} {s' : Int} {gu cu : Nat} {p : OpT × Int} (h : BothT W bt bk bw ev bu T us bs vp vu wr) (hp : us[q]? = some p) (hm : ManyT W bt bk bw ev bu T' ((us.set q (o', s')).map (·.1)) bs vp w2) (hu : w2.ownsRow W.heap.size 102 9 (.slice (some ⟨gu, 0, none⟩) bs.length cu) bs.length (undCells us)) (hs : SawT o' s')
    (hk : k ∉ [bt, bk, bw]) (hkb : ∀ b, b ∈ bs → b ≠ k) (hkp : ∀ r, vp.ownBlock = some r → r ≠ k) (hku : gu ≠ k) (hlo : W.heap.size ≤ k) (hP : Part [k] (undSet w2 gu (q * 9) o' s') w5) :
    BothT W bt bk bw ev bu T' (us.set q (o', s')) bs vp (.slice (some ⟨gu, 0, none⟩) bs.length cu) w5 := by
  have hgu : (Value.slice (some ⟨gu, 0, none⟩) bs.length cu).ownBlock = some gu := rfl
  have b := hm.one.buck
  simp at hk
  have hr5 : ∀ x, x ∈ bs → x ≠ gu := fun x hx => by
    obtain ⟨r, hr⟩ := List.getElem?_of_mem hx
    exact fun e => own_off hu (hm.pends.row r _ x (List.getElem?_eq_getElem (by rw [← hm.pends.len]; exact lt_of_get hr)) hr) (by decide) gu hgu e.symm
  have m1 := hm.part (und_part w2 gu (q * 9) o' s') (by simp; exact own_from hu gu hgu) (by simpa using fun e => own_off hu b.head (by decide) gu hgu e.symm) (by simpa using fun e => own_off hu b.words.head (by decide) gu hgu e.symm) (by simpa using fun e => own_off hu b.words.row (by decide) gu hgu e.symm)
    (fun r hr => by simp; rintro rfl; rcases own_apart hm.ps hu (by decide) with e | e
                    · rw [hr] at e; cases e
                    · rw [hr] at e; exact e rfl) (fun x hx => by simpa using hr5 x hx)
  refine ⟨m1.part hP (by simpa using hlo) (by simp; omega) (by simp; omega) (by simp; omega) (fun r hr => by simpa using hkp r hr) (fun x hx => by simpa using hkb x hx), own_part (und_stored hu hp) hP (fun r hr => by cases hr; simpa using hku), fun x hx => ?_⟩
  rcases List.mem_or_eq_of_mem_set hx with hx | rfl
  · exact h.saw x hx
  · exact hs
theorem BothT.get (h : BothT W bt bk bw ev bu T us bs vp vu wr) (hq : q < bs.length) : ∃ o s b g c gu cu, us[q]? = some (o, s) ∧ bs[q]? = some b ∧ vp = .slice (some ⟨g, 0, none⟩) bs.length c ∧ vu = .slice (some ⟨gu, 0, none⟩) bs.length cu ∧ wr.cell? ⟨g, q, none⟩ = some (.pointer (some ⟨b, 0, none⟩)) ∧ Row wr b 140 (opTL bt o) ∧ OkT ev bu o ∧ SawT o s := by
  obtain ⟨o, b, g, c, h1, h2, h3, h4, h5, h6⟩ := h.many.get hq
  obtain ⟨gu, cu, h7, _, _⟩ := own_some h.und (by omega)
  simp only [List.getElem?_map, Option.map_eq_some_iff] at h1
  obtain ⟨⟨o2, s⟩, h8, h9⟩ := h1
  dsimp only at h9
  subst h9
  exact ⟨o2, s, b, g, c, gu, cu, h8, h2, h3, h7, h4, h5, h6, h.saw _ (List.mem_of_getElem? h8)⟩
end
/-- the operations of a list that are right, the document's own -/
def pickU (ops : List (Int × Int × Int)) : List (OpT × Int) := (pickT ops).map fun o => (o, 0)
theorem pickU_take (ops : List (Int × Int × Int)) {j : Nat} {op : Int × Int × Int} (h : ops[j]? = some op) :
    pickU (ops.take (j + 1)) = pickU (ops.take j) ++ (if trightB op.1 op.2.1 op.2.2 then [(newO op.1 op.2.1 op.2.2, 0)] else []) := by
  unfold pickU
  rw [pickT_take ops h, List.map_append]
  congr 1
  split <;> rfl
theorem pickU_length (ops : List (Int × Int × Int)) : (pickU ops).length ≤ ops.length := by
  unfold pickU
  rw [List.length_map]
  exact pickT_length ops
theorem tover_at {w : World} {bp bt : Nat} {o : OpT} (h : Row w bp 140 (opTL bt o)) (h2 : o.ph = 2) :
    Calls Try.prog 43 #[.pointer (some ⟨bp, 0, none⟩)] w fun e w' => e = .returned (.tuple #[.agg #[.int .u8 0, .int .i64 0, .int .u64 0, .int .u64 0, .bool false], .bool true]) ∧ Below w.heap.size w w' := by
  obtain ⟨k, t, n, ph, saw, put, ok, wait, left⟩ := o
  dsimp only at h2
  subst h2
  exact tstep_over h
theorem did_five (T : Int) (o : OpT) : ∃ d0 d1 d2 d3 d4, didO T o = .agg #[.int .u8 d0, .int .i64 d1, .int .u64 d2, .int .u64 d3, .bool d4] := by
  unfold didO
  split
  · exact ⟨_, _, _, _, _, rfl⟩
  · split
    · split
      · exact ⟨_, _, _, _, _, rfl⟩
      · exact ⟨_, _, _, _, _, rfl⟩
    · exact ⟨_, _, _, _, _, rfl⟩
/-- the document's step, all that it answers said outright -/
theorem rstep_at {w : World} {ev bu T s T' : Int} {o o' : OpT} {did : Value} {l1 last : Bool} (hf : fitsB ev bu = true) (T0 : 0 ≤ T) (T1 : T ≤ 3458764513820540928) (ho : OkT ev bu o) (hs : SawT o s) (hph : o.ph < 2) (hT : stepW T o = T') (ho' : stepO ev bu T o = o') (hd : didO T o = did) (h1 : decide (o'.ph = 1) = l1) (hl : decide (o'.ph = 2) = last) :
    Calls Try.prog 44 #[.int .i64 ev, .int .i64 bu, .int .i64 T, .agg #[.int .u8 o.k, .int .i64 o.t, .int .i64 o.n, .bool (decide (o.ph = 1)), .int .i64 s, .bool (decide (o.ph = 2)), .bool o.ok, .int .i64 o.wait, .int .i64 o.left]] w fun e w' =>
      ∃ s', e = .returned (.tuple #[.int .i64 T', .agg #[.int .u8 o'.k, .int .i64 o'.t, .int .i64 o'.n, .bool l1, .int .i64 s', .bool last, .bool o'.ok, .int .i64 o'.wait, .int .i64 o'.left], did]) ∧ SawT o' s' ∧ Below w.heap.size w w' := by
  subst hT
  subst ho'
  subst hd
  subst h1
  subst hl
  exact rstep_op hf T0 T1 ho hs hph
end Go.Proofs.Ytcocegneegjcpaa
