/- OPERATIONS OF A GAUGE AND THE DOCUMENT'S OWN, SIDE BY SIDE. -/
import Derived.Test.YtcocegneegjcpaaGx
import Derived.Test.YtcocegneegjcpaaGo
namespace Go.Proofs.Ytcocegneegjcpaa
open Go Go.RowKit

/-- the document's record of an operation -/
def bkL (o : OpG) (s : Int) (a : Nat) : List Value := [.int .u8 o.k, .float .f64 o.x, .bool (decide (o.ph = 1)), .int .u64 s, .bool (decide (o.ph = 2)), .float .f64 a]
structure SawG (o : OpG) (s : Int) (a : Nat) : Prop where
  s : o.ph = 1 → s = o.saw
  lt : B64 a
  ans : GM.bitsOf a = GM.bitsOf o.ans
theorem SawG.new (k : Int) (x : Nat) : SawG (newG k x) 0 0 := ⟨fun h => by simp [newG] at h, by unfold B64; omega, rfl⟩
def bkCells (us : List (OpG × Int × Nat)) : List Value := us.flatMap fun p => bkL p.1 p.2.1 p.2.2
theorem bkL_length (o : OpG) (s : Int) (a : Nat) : (bkL o s a).length = 6 := rfl
theorem bkCells_snoc (us : List (OpG × Int × Nat)) (o : OpG) (s : Int) (a : Nat) : bkCells us ++ bkL o s a = bkCells (us ++ [(o, s, a)]) := by simp [bkCells]
theorem bkCells_get {us : List (OpG × Int × Nat)} : ∀ {q : Nat} {p : OpG × Int × Nat}, us[q]? = some p → ∀ j, j < 6 → (bkCells us)[q * 6 + j]? = (bkL p.1 p.2.1 p.2.2)[j]? := by
  induction us with
  | nil => intro q p h; simp at h
  | cons a us ih =>
    intro q p h j hj
    have e : bkCells (a :: us) = bkL a.1 a.2.1 a.2.2 ++ bkCells us := rfl
    rw [e]
    cases q with
    | zero => simp at h; subst h; rw [List.getElem?_append_left (by rw [bkL_length]; omega)]; simp
    | succ q =>
      simp at h
      rw [List.getElem?_append_right (by rw [bkL_length]; omega), bkL_length]
      have e1 : (q + 1) * 6 + j - 6 = q * 6 + j := by omega
      rw [e1]
      exact ih h j hj
theorem bk_app_set {a l : List Value} {m : Nat} {v : Value} (ha : a.length = 6) : (a ++ l).set (m + 6) v = a ++ l.set m v := by
  rw [List.set_append, if_neg (by omega)]
  congr 2
  omega
theorem bkCells_set {us : List (OpG × Int × Nat)} {o : OpG} {s : Int} {a : Nat} : ∀ {q : Nat} {p : OpG × Int × Nat}, us[q]? = some p →
    (((((((bkCells us).set (q * 6) (.int .u8 o.k)).set (q * 6 + 1) (.float .f64 o.x)).set (q * 6 + 2) (.bool (decide (o.ph = 1)))).set (q * 6 + 3) (.int .u64 s)).set (q * 6 + 4) (.bool (decide (o.ph = 2)))).set (q * 6 + 5) (.float .f64 a)) = bkCells (us.set q (o, s, a)) := by
  induction us with
  | nil => intro q p h; simp at h
  | cons c us ih =>
    intro q p h
    have e : bkCells (c :: us) = bkL c.1 c.2.1 c.2.2 ++ bkCells us := rfl
    rw [e]
    cases q with
    | zero => simp at h; subst h; simp [bkCells, bkL]
    | succ q =>
      simp at h
      have e0 : (q + 1) * 6 = q * 6 + 6 := by omega
      have e1 : (q + 1) * 6 + 1 = q * 6 + 1 + 6 := by omega
      have e2 : (q + 1) * 6 + 2 = q * 6 + 2 + 6 := by omega
      have e3 : (q + 1) * 6 + 3 = q * 6 + 3 + 6 := by omega
      have e4 : (q + 1) * 6 + 4 = q * 6 + 4 + 6 := by omega
      have e5 : (q + 1) * 6 + 5 = q * 6 + 5 + 6 := by omega
      rw [e5, e4, e3, e2, e1, e0, bk_app_set (bkL_length c.1 c.2.1 c.2.2), bk_app_set (bkL_length c.1 c.2.1 c.2.2), bk_app_set (bkL_length c.1 c.2.1 c.2.2), bk_app_set (bkL_length c.1 c.2.1 c.2.2), bk_app_set (bkL_length c.1 c.2.1 c.2.2), bk_app_set (bkL_length c.1 c.2.1 c.2.2)]
      rw [ih h]
      rfl
theorem bk_six (o : OpG) (s : Int) (a : Nat) : ∀ u ∈ bkL o s a, u.oneCell' = true := by
  intro u hu
  simp [bkL] at hu
  rcases hu with rfl | rfl | rfl | rfl | rfl | rfl <;> rfl
theorem infoBK : (Try.prog.info? 42).map (fun i => (i.zero, i.size, i.bytes)) = some (some (.agg #[.int .u8 0, .float .f64 0, .bool false, .int .u64 0, .bool false, .float .f64 0]), 6, 48) := by kernel_rfl
/-- six stores -/
def bkSet (w : World) (g i : Nat) (o : OpG) (s : Int) (a : Nat) : World := (((((w.setCell ⟨g, i, none⟩ (.int .u8 o.k)).setCell ⟨g, i + 1, none⟩ (.float .f64 o.x)).setCell ⟨g, i + 2, none⟩ (.bool (decide (o.ph = 1)))).setCell ⟨g, i + 3, none⟩ (.int .u64 s)).setCell ⟨g, i + 4, none⟩ (.bool (decide (o.ph = 2)))).setCell ⟨g, i + 5, none⟩ (.float .f64 a)
section
variable {w : World} {base g n c q : Nat} {us : List (OpG × Int × Nat)} {o : OpG} {s : Int} {a : Nat}
theorem bk_cells (h : w.ownsRow base 42 6 (.slice (some ⟨g, 0, none⟩) n c) n (bkCells us)) (hp : us[q]? = some (o, s, a)) :
    w.cell? ⟨g, q * 6, none⟩ = some (.int .u8 o.k) ∧ w.cell? ⟨g, q * 6 + 1, none⟩ = some (.float .f64 o.x) ∧ w.cell? ⟨g, q * 6 + 2, none⟩ = some (.bool (decide (o.ph = 1))) ∧ w.cell? ⟨g, q * 6 + 3, none⟩ = some (.int .u64 s) ∧ w.cell? ⟨g, q * 6 + 4, none⟩ = some (.bool (decide (o.ph = 2))) ∧ w.cell? ⟨g, q * 6 + 5, none⟩ = some (.float .f64 a) :=
  ⟨by simpa using own_cell h ((bkCells_get hp 0 (by omega)).trans rfl), own_cell h ((bkCells_get hp 1 (by omega)).trans rfl), own_cell h ((bkCells_get hp 2 (by omega)).trans rfl), own_cell h ((bkCells_get hp 3 (by omega)).trans rfl), own_cell h ((bkCells_get hp 4 (by omega)).trans rfl), own_cell h ((bkCells_get hp 5 (by omega)).trans rfl)⟩
theorem bk_stored {p : OpG × Int × Nat} (h : w.ownsRow base 42 6 (.slice (some ⟨g, 0, none⟩) n c) n (bkCells us)) (hp : us[q]? = some p) :
    (bkSet w g (q * 6) o s a).ownsRow base 42 6 (.slice (some ⟨g, 0, none⟩) n c) n (bkCells (us.set q (o, s, a))) := by
  have h0 := (h.stored (q * 6) (.int .u8 o.k)).1
  have h1 := (h0.stored (q * 6 + 1) (.float .f64 o.x)).1
  have h2 := (h1.stored (q * 6 + 2) (.bool (decide (o.ph = 1)))).1
  have h3 := (h2.stored (q * 6 + 3) (.int .u64 s)).1
  have h4 := (h3.stored (q * 6 + 4) (.bool (decide (o.ph = 2)))).1
  have h5 := (h4.stored (q * 6 + 5) (.float .f64 a)).1
  rw [bkCells_set hp] at h5
  exact h5
theorem bk_part (w : World) (g i : Nat) (o : OpG) (s : Int) (a : Nat) : Part [g] w (bkSet w g i o s a) :=
  ((((((Part.refl [g] w).set (by simp) (.int .u8 o.k)).set (by simp) (.float .f64 o.x)).set (by simp) (.bool (decide (o.ph = 1)))).set (by simp) (.int .u64 s)).set (by simp) (.bool (decide (o.ph = 2)))).set (by simp) (.float .f64 a)
end

/-- the operations, and the document's own of them -/
structure BothG (W : World) (bg bk bw T : Nat) (us : List (OpG × Int × Nat)) (bs : List Nat) (vp vu : Value) (wr : World) : Prop where
  many : ManyG W bg bk bw T (us.map (·.1)) bs vp wr
  book : wr.ownsRow W.heap.size 42 6 vu bs.length (bkCells us)
  saw : ∀ p, p ∈ us → SawG p.1 p.2.1 p.2.2
section
variable {W wr w1 w2 w3 w5 w6 w7 : World} {bg bk bw T T' : Nat} {us us' : List (OpG × Int × Nat)} {os : List OpG} {bs : List Nat} {vp vu vp' vu' : Value} {q : Nat}
theorem BothG.on (h : BothG W bg bk bw T us bs vp vu wr) (hb : Below wr.heap.size wr w1) : BothG W bg bk bw T us bs vp vu w1 := ⟨h.many.on hb, own_part h.book (Part.of_below hb (Nat.le_refl _) []) (by simp), h.saw⟩
theorem BothG.alloc (h : BothG W bg bk bw T us bs vp vu wr) (o : Obj) : BothG W bg bk bw T us bs vp vu (wr.alloc o) := h.on ((Below.refl _ _).alloc (Nat.le_refl _) o)
theorem BothG.drew (h : BothG W bg bk bw T us bs vp vu wr) : BothG W bg bk bw T us bs vp vu wr.drew := h.on (Below.refl _ _).drew
theorem BothG.nil (h : OneG W bg bk bw T wr) : BothG W bg bk bw T [] [] (.slice none 0 0) (.slice none 0 0) wr := ⟨ManyG.nil h, ⟨rfl, .inl ⟨rfl, rfl⟩⟩, by simp⟩
theorem BothG.word (h : BothG W bg bk bw T us bs vp vu wr) (hB : Gau w1 bg bk bw T') (hP : Part [bw] wr w1) : BothG W bg bk bw T' us bs vp vu w1 :=
  ⟨h.many.word hB hP, own_part h.book hP (fun q hq => by simpa using own_off h.book h.many.one.gau.words.row (by decide) q hq), h.saw⟩
theorem BothG.grow {k : Int} {x bp : Nat} {ob ob' : Obj} (h : BothG W bg bk bw T us bs vp vu wr) (hb5 : Below wr.heap.size wr w5) (hr5 : Row w5 bp 115 (opG bk (newG k x))) (hn : wr.heap.size ≤ bp) (ho : OkG (newG k x))
    (h6 : w6.ownsRow W.heap.size 36 1 vp' (bs.length + 1) (ptrs bs ++ [.pointer (some ⟨bp, 0, none⟩)])) (hg6 : (w5.alloc ob).grownBy w6 vp.ownBlock)
    (h7 : w7.ownsRow W.heap.size 42 6 vu' (bs.length + 1) (bkCells us ++ bkL (newG k x) 0 0)) (hg7 : (w6.alloc ob').grownBy w7 vu.ownBlock) :
    BothG W bg bk bw T (us ++ [(newG k x, 0, 0)]) (bs ++ [bp]) vp' vu' w7 := by
  have h5 := (h.on hb5).alloc ob
  have m6 := h.many.grow hb5 hr5 hn ho h6 hg6
  have u6 := (h5.book.kept hg6 (own_apart h5.book h5.many.ps (by decide))).alloc ob'
  have m7 := (m6.alloc ob').grown u6 (Nat.le_refl _) hg7 (by decide) (by decide) (by decide) (by decide) (by decide)
  refine ⟨?_, ?_, fun p hp => ?_⟩
  · simpa using m7
  · rw [List.length_append, List.length_singleton, ← bkCells_snoc]
    exact h7
  · rw [List.mem_append] at hp
    rcases hp with hp | hp
    · exact h.saw p hp
    · simp at hp; subst hp; exact SawG.new k x
/-- the document's record has been stored, the code's operation not yet stepped -/
theorem BothG.booked {o : OpG} {s : Int} {a gu cu : Nat} {p : OpG × Int × Nat} (h : BothG W bg bk bw T us bs vp (.slice (some ⟨gu, 0, none⟩) bs.length cu) wr) (hq : us[q]? = some p) :
    ManyG W bg bk bw T (us.map (·.1)) bs vp (bkSet wr gu (q * 6) o s a) ∧ (bkSet wr gu (q * 6) o s a).ownsRow W.heap.size 42 6 (.slice (some ⟨gu, 0, none⟩) bs.length cu) bs.length (bkCells (us.set q (o, s, a))) := by
  have hgu : (Value.slice (some ⟨gu, 0, none⟩) bs.length cu).ownBlock = some gu := rfl
  have hP := bk_part wr gu (q * 6) o s a
  have b := h.many.one.gau
  have hlo := own_from h.book gu hgu
  have n1 : gu ≠ bg := own_off h.book b.head (by decide) gu hgu
  have n2 : gu ≠ bk := own_off h.book b.words.head (by decide) gu hgu
  have n3 : gu ≠ bw := own_off h.book b.words.row (by decide) gu hgu
  refine ⟨⟨⟨b.part hP (by simpa using n1.symm) (by simpa using n2.symm) (by simpa using n3.symm), h.many.one.lo, h.many.low.trans (hP.below h.many.low.size (by simpa using hlo))⟩, own_part h.many.ps hP (fun r hr => ?_), h.many.pends.part hP (fun x hx => ?_)⟩, bk_stored h.book hq⟩
  · simp
    rintro rfl
    rcases own_apart h.many.ps h.book (by decide) with e | e
    · rw [hr] at e; cases e
    · rw [hr] at e; exact e rfl
  · obtain ⟨r, hr⟩ := List.getElem?_of_mem hx
    have hrow := h.many.pends.row r _ x (List.getElem?_eq_getElem (by rw [← h.many.pends.len]; exact lt_of_get hr)) hr
    simpa using fun e => own_off h.book hrow (by decide) gu hgu e.symm
/-- and now the code's -/
theorem both_stepped {b : Nat} {o o' : OpG} {s : Int} {a : Nat} {v : Value} {e : Ending} (hm : ManyG W bg bk bw T (us.map (·.1)) bs vp w2) (hu : w2.ownsRow W.heap.size 42 6 vu bs.length (bkCells (us.set q (o', s, a)))) (hsaw : ∀ p, p ∈ us → SawG p.1 p.2.1 p.2.2) {s0 : Int × Nat} (hq : us[q]? = some (o, s0)) (hb : bs[q]? = some b) (hs : StepsG w2 bk bw b T' o' v e w3) (hT : B64 T') (hok : OkG o') (hsa : SawG o' s a) :
    BothG W bg bk bw T' (us.set q (o', s, a)) bs vp vu w3 := by
  obtain ⟨_, hW, hR, hP⟩ := hs
  have ho : (us.map (·.1))[q]? = some o := by simp [hq]
  have hrow := hm.pends.row q o b ho hb
  refine ⟨?_, own_part hu hP (fun r hr => by simp; exact ⟨own_off hu hm.one.gau.words.row (by decide) r hr, own_off hu hrow (by decide) r hr⟩), fun p hp => ?_⟩
  · rw [List.map_set]
    exact hm.step hb hW hT hR hP hok
  · rcases List.mem_or_eq_of_mem_set hp with hp | rfl
    · exact hsaw p hp
    · exact hsa
theorem BothG.get (h : BothG W bg bk bw T us bs vp vu wr) (hq : q < bs.length) : ∃ o s a b g c gu cu, us[q]? = some (o, s, a) ∧ bs[q]? = some b ∧ vp = .slice (some ⟨g, 0, none⟩) bs.length c ∧ vu = .slice (some ⟨gu, 0, none⟩) bs.length cu ∧ wr.cell? ⟨g, q, none⟩ = some (.pointer (some ⟨b, 0, none⟩)) ∧ Row wr b 115 (opG bk o) ∧ OkG o ∧ SawG o s a := by
  obtain ⟨o, b, g, c, h1, h2, h3, h4, h5, h6⟩ := h.many.get hq
  obtain ⟨gu, cu, h7, _, _⟩ := own_some h.book (by omega)
  simp only [List.getElem?_map, Option.map_eq_some_iff] at h1
  obtain ⟨⟨o2, s, a⟩, h8, h9⟩ := h1
  dsimp only at h9
  subst h9
  exact ⟨o2, s, a, b, g, c, gu, cu, h8, h2, h3, h7, h4, h5, h6, h.saw _ (List.mem_of_getElem? h8)⟩
end
theorem BothG.apart {W wr : World} {bg bk bw T g c gu cu q : Nat} {us : List (OpG × Int × Nat)} {bs : List Nat} (h : BothG W bg bk bw T us bs (.slice (some ⟨g, 0, none⟩) bs.length c) (.slice (some ⟨gu, 0, none⟩) bs.length cu) wr) (_ : q < bs.length) : g ≠ gu := by
  rintro rfl
  rcases own_apart h.many.ps h.book (by decide) with e | e
  · cases e
  · exact e rfl
/-- the operations of a list that are right, the document's own -/
def pickG (ops : List (Int × Nat)) : List (OpG × Int × Nat) := (ops.filter fun p => grightB p.1 p.2).map fun p => (newG p.1 p.2, 0, 0)
theorem pickG_take (ops : List (Int × Nat)) {j : Nat} {op : Int × Nat} (h : ops[j]? = some op) :
    pickG (ops.take (j + 1)) = pickG (ops.take j) ++ (if grightB op.1 op.2 then [(newG op.1 op.2, 0, 0)] else []) := by
  unfold pickG
  rw [List.take_add_one, h, Option.toList_some, List.filter_append, List.map_append]
  congr 1
  cases hg : grightB op.1 op.2 <;> simp [hg]
theorem pickG_length (ops : List (Int × Nat)) : (pickG ops).length ≤ ops.length := by
  unfold pickG
  rw [List.length_map]
  exact List.length_filter_le _ _
/-- and the order in which they are stepped -/
structure OrdG (W : World) (bg bk bw T : Nat) (us : List (OpG × Int × Nat)) (bs : List Nat) (vp vu vo : Value) (ord : List Int) (wr : World) : Prop where
  both : BothG W bg bk bw T us bs vp vu wr
  ordr : wr.ownsRow W.heap.size 3 1 vo ord.length (i64s ord)
section
variable {W wr w1 w2 w3 : World} {bg bk bw T T' : Nat} {us us' : List (OpG × Int × Nat)} {bs : List Nat} {vp vu vo vo' : Value} {q : Nat} {ord : List Int}
theorem OrdG.on (h : OrdG W bg bk bw T us bs vp vu vo ord wr) (hb : Below wr.heap.size wr w1) : OrdG W bg bk bw T us bs vp vu vo ord w1 := ⟨h.both.on hb, own_part h.ordr (Part.of_below hb (Nat.le_refl _) []) (by simp)⟩
theorem OrdG.alloc (h : OrdG W bg bk bw T us bs vp vu vo ord wr) (o : Obj) : OrdG W bg bk bw T us bs vp vu vo ord (wr.alloc o) := h.on ((Below.refl _ _).alloc (Nat.le_refl _) o)
theorem OrdG.drew (h : OrdG W bg bk bw T us bs vp vu vo ord wr) : OrdG W bg bk bw T us bs vp vu vo ord wr.drew := h.on (Below.refl _ _).drew
theorem OrdG.drewN (h : OrdG W bg bk bw T us bs vp vu vo ord wr) (n : Nat) : OrdG W bg bk bw T us bs vp vu vo ord (wr.drewN n) := h.on (Part.end_ (Part.drewN (Part.refl [] wr) n))
theorem OrdG.word (h : OrdG W bg bk bw T us bs vp vu vo ord wr) (hB : Gau w1 bg bk bw T') (hP : Part [bw] wr w1) : OrdG W bg bk bw T' us bs vp vu vo ord w1 :=
  ⟨h.both.word hB hP, own_part h.ordr hP (fun q hq => by simpa using own_off h.ordr h.both.many.one.gau.words.row (by decide) q hq)⟩
theorem OrdG.more {i : Int} {ob : Obj} (h : OrdG W bg bk bw T us bs vp vu vo ord wr) (h1 : w1.ownsRow W.heap.size 3 1 vo' (ord.length + 1) (i64s ord ++ [.int .i64 i])) (hg : (wr.alloc ob).grownBy w1 vo.ownBlock) : OrdG W bg bk bw T us bs vp vu vo' (ord ++ [i]) w1 := by
  have ha := h.alloc ob
  refine ⟨⟨ha.both.many.grown ha.ordr (Nat.le_refl _) hg (by decide) (by decide) (by decide) (by decide) (by decide), ha.both.book.kept hg (own_apart ha.both.book ha.ordr (by decide)), ha.both.saw⟩, ?_⟩
  rw [List.length_append, List.length_singleton]
  simpa [i64s] using h1
theorem BothG.first_ {zs : List Int} (h : BothG W bg bk bw T us bs vp vu wr) (h1 : w1.ownsRow W.heap.size 3 1 vo' zs.length (i64s zs)) (hg : wr.grownBy w1 none) : OrdG W bg bk bw T us bs vp vu vo' zs w1 := by
  have hn : wr.ownsRow W.heap.size 3 1 (.slice none 0 0) 0 [] := ⟨rfl, .inl ⟨rfl, rfl⟩⟩
  exact ⟨⟨h.many.grown hn (Nat.le_refl _) hg (by decide) (by decide) (by decide) (by decide) (by decide), h.book.kept hg (own_apart h.book hn (by decide)), h.saw⟩, h1⟩
theorem OrdG.booked {o : OpG} {s : Int} {a gu cu : Nat} {p : OpG × Int × Nat} (h : OrdG W bg bk bw T us bs vp (.slice (some ⟨gu, 0, none⟩) bs.length cu) vo ord wr) (_hq : us[q]? = some p) :
    (bkSet wr gu (q * 6) o s a).ownsRow W.heap.size 3 1 vo ord.length (i64s ord) :=
  own_part h.ordr (bk_part wr gu (q * 6) o s a) (fun r hr => by
    simp
    rintro rfl
    rcases own_apart h.ordr h.both.book (by decide) with e | e
    · rw [hr] at e; cases e
    · rw [hr] at e; exact e rfl)
/-- the document's record is stored, then the code's operation stepped -/
theorem OrdG.step {b gu cu : Nat} {o o' : OpG} {s s' : Int} {a a' : Nat} {v : Value} {e : Ending} (h : OrdG W bg bk bw T us bs vp (.slice (some ⟨gu, 0, none⟩) bs.length cu) vo ord wr) (hq : us[q]? = some (o, s, a)) (hb : bs[q]? = some b) (hw2 : Below (bkSet wr gu (q * 6) o' s' a').heap.size (bkSet wr gu (q * 6) o' s' a') w2) (hs : StepsG w2 bk bw b T' o' v e w3) (hT : B64 T') (hok : OkG o') (hsa : SawG o' s' a') :
    OrdG W bg bk bw T' (us.set q (o', s', a')) bs vp (.slice (some ⟨gu, 0, none⟩) bs.length cu) vo ord w3 := by
  have hb2 := h.both.booked (o := o') (s := s') (a := a') hq
  have hm2 := hb2.1.on hw2
  have hu2 := own_part hb2.2 (Part.of_below hw2 (Nat.le_refl _) []) (by simp)
  have ho2 := own_part (h.booked (o := o') (s := s') (a := a') hq) (Part.of_below hw2 (Nat.le_refl _) []) (by simp)
  have ho : (us.map (·.1))[q]? = some o := by simp [hq]
  have hrow := hm2.pends.row q o b ho hb
  have hP := hs.2.2.2
  exact ⟨both_stepped hm2 hu2 h.both.saw hq hb hs hT hok hsa, own_part ho2 hP (fun r hr => by simp; exact ⟨own_off ho2 hm2.one.gau.words.row (by decide) r hr, own_off ho2 hrow (by decide) r hr⟩)⟩
theorem bkSet_size (w : World) (g i : Nat) (o : OpG) (s : Int) (a : Nat) : (bkSet w g i o s a).heap.size = w.heap.size := by simp [bkSet]
theorem Row.new_at (w : World) (t : TypeId) (l : List Value) {n : Nat} (hn : n = w.heap.size) : Row (w.alloc (.cells l.toArray t)) n t l := by subst hn; exact Row.new w t l
end
theorem did_fiveG (T : Nat) (o : OpG) : ∃ d0 d1 d2 d3 d4, didG T o = .agg #[.int .u8 d0, .int .i64 d1, .int .u64 d2, .int .u64 d3, .bool d4] := by
  unfold didG
  split
  · split
    · exact ⟨_, _, _, _, _, rfl⟩
    · exact ⟨_, _, _, _, _, rfl⟩
  · split
    · split
      · exact ⟨_, _, _, _, _, rfl⟩
      · exact ⟨_, _, _, _, _, rfl⟩
    · exact ⟨_, _, _, _, _, rfl⟩
/-- the document's step, all that it answers said outright -/
theorem grstep_at {w : World} {T T' : Nat} {o o' : OpG} {s : Int} {a : Nat} {did : Value} {l1 l2 m1 m2 : Bool} (hok : OkG o) (lT : B64 T) (hs : SawG o s a) (hT : wordG T o = T') (ho' : stepG T o = o') (hd : didG T o = did) (h1 : decide (o.ph = 1) = l1) (h2 : decide (o.ph = 2) = l2) (h3 : decide (o'.ph = 1) = m1) (h4 : decide (o'.ph = 2) = m2) :
    Calls Try.prog 13 #[.int .u64 (T : Nat), .agg #[.int .u8 o.k, .float .f64 o.x, .bool l1, .int .u64 s, .bool l2, .float .f64 a]] w fun e w' =>
      ∃ s' a', e = .returned (.tuple #[.int .u64 (T' : Nat), .agg #[.int .u8 o'.k, .float .f64 o'.x, .bool m1, .int .u64 s', .bool m2, .float .f64 a'], did]) ∧ SawG o' s' a' ∧ Below w.heap.size w w' := by
  subst hT
  subst ho'
  subst hd
  subst h1
  subst h2
  subst h3
  subst h4
  refine (rstep_op hok lT ⟨rfl, rfl, hs.s, hs.lt, hs.ans⟩ w).mono fun e w' ⟨l, e', s', a', he, hb, hw⟩ => ⟨s', a', ?_, ⟨hb.s, hb.lt, hb.ans⟩, hw⟩
  rw [he, hb.l, hb.e]
  rfl
end Go.Proofs.Ytcocegneegjcpaa
