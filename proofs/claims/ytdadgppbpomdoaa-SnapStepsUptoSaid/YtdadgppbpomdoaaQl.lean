/- OPERATIONS OF snap AND THE DOCUMENT'S OWN, SIDE BY SIDE. -/
import Derived.Test.YtdadgppbpomdoaaQj
import Derived.Test.YtdadgppbpomdoaaPu
import Derived.Test.YtdadgppbpomdoaaPw
namespace Go.Proofs.Ytdadgppbpomdoaa
open Go Go.RowKit

/-- the document's records of operations -/
def unCells (xs : List DU) : List Value := xs.flatMap DU.cells
theorem du_length (x : DU) : x.cells.length = 13 := rfl
theorem unCells_snoc (xs : List DU) (x : DU) : unCells xs ++ x.cells = unCells (xs ++ [x]) := by simp [unCells]
theorem unCells_get {xs : List DU} : ∀ {q : Nat} {x : DU}, xs[q]? = some x → ∀ j, j < 13 → (unCells xs)[q * 13 + j]? = x.cells[j]? := by
  induction xs with
  | nil => intro q x h; simp at h
  | cons a xs ih =>
    intro q x h j hj
    have e : unCells (a :: xs) = a.cells ++ unCells xs := rfl
    rw [e]
    cases q with
    | zero => simp at h; subst h; rw [List.getElem?_append_left (by rw [du_length]; omega)]; simp
    | succ q =>
      simp at h
      rw [List.getElem?_append_right (by rw [du_length]; omega), du_length]
      have e1 : (q + 1) * 13 + j - 13 = q * 13 + j := by omega
      rw [e1]
      exact ih h j hj
theorem un_app_set {a l : List Value} {m : Nat} {v : Value} (ha : a.length = 13) : (a ++ l).set (m + 13) v = a ++ l.set m v := by
  rw [List.set_append, if_neg (by omega)]
  congr 2
  omega
theorem unCells_set {xs : List DU} {x : DU} : ∀ {q : Nat} {y : DU}, xs[q]? = some y →
    (((((((((((((unCells xs).set (q * 13) (.int .u8 x.k)).set (q * 13 + 1) (.int .i64 x.r)).set (q * 13 + 2) (.int .u32 x.v)).set (q * 13 + 3) (.int .i64 x.t)).set (q * 13 + 4) (.bool x.ld)).set (q * 13 + 5) (.int .u64 x.saw)).set (q * 13 + 6) (.int .i64 x.at_)).set (q * 13 + 7) (sl x.last)).set (q * 13 + 8) (sl x.now)).set (q * 13 + 9) (.bool x.en)).set (q * 13 + 10) (sl x.regs)).set (q * 13 + 11) (.bool x.cl)).set (q * 13 + 12) (.int .i64 x.co) = unCells (xs.set q x) := by
  induction xs with
  | nil => intro q y h; simp at h
  | cons a xs ih =>
    intro q y h
    have e : unCells (a :: xs) = a.cells ++ unCells xs := rfl
    rw [e]
    cases q with
    | zero => rfl
    | succ q =>
      simp at h
      have e0 : (q + 1) * 13 = q * 13 + 13 := by omega
      have e1 : (q + 1) * 13 + 1 = q * 13 + 1 + 13 := by omega
      have e2 : (q + 1) * 13 + 2 = q * 13 + 2 + 13 := by omega
      have e3 : (q + 1) * 13 + 3 = q * 13 + 3 + 13 := by omega
      have e4 : (q + 1) * 13 + 4 = q * 13 + 4 + 13 := by omega
      have e5 : (q + 1) * 13 + 5 = q * 13 + 5 + 13 := by omega
      have e6 : (q + 1) * 13 + 6 = q * 13 + 6 + 13 := by omega
      have e7 : (q + 1) * 13 + 7 = q * 13 + 7 + 13 := by omega
      have e8 : (q + 1) * 13 + 8 = q * 13 + 8 + 13 := by omega
      have e9 : (q + 1) * 13 + 9 = q * 13 + 9 + 13 := by omega
      have e10 : (q + 1) * 13 + 10 = q * 13 + 10 + 13 := by omega
      have e11 : (q + 1) * 13 + 11 = q * 13 + 11 + 13 := by omega
      have e12 : (q + 1) * 13 + 12 = q * 13 + 12 + 13 := by omega
      rw [e12, e11, e10, e9, e8, e7, e6, e5, e4, e3, e2, e1, e0, un_app_set (du_length a), un_app_set (du_length a), un_app_set (du_length a), un_app_set (du_length a), un_app_set (du_length a), un_app_set (du_length a), un_app_set (du_length a), un_app_set (du_length a), un_app_set (du_length a), un_app_set (du_length a), un_app_set (du_length a), un_app_set (du_length a), un_app_set (du_length a)]
      rw [ih h]
      rfl
theorem du_one (x : DU) : ∀ u ∈ x.cells, u.oneCell' = true := by
  intro u hu
  simp [DU.cells, undD] at hu
  rcases hu with rfl | rfl | rfl | rfl | rfl | rfl | rfl | rfl | rfl | rfl | rfl | rfl | rfl <;> rfl
theorem infoUN : (Try.prog.info? 45).map (fun i => (i.zero, i.size, i.bytes)) = some (some (.agg #[.int .u8 0, .int .i64 0, .int .u32 0, .int .i64 0, .bool false, .int .u64 0, .int .i64 0, .slice none 0 0, .slice none 0 0, .bool false, .slice none 0 0, .bool false, .int .i64 0]), 13, 152) := by kernel_rfl
/-- thirteen stores -/
def undSet (w : World) (g i : Nat) (x : DU) : World := (((((((((((((w).setCell ⟨g, i, none⟩ (.int .u8 x.k)).setCell ⟨g, i + 1, none⟩ (.int .i64 x.r)).setCell ⟨g, i + 2, none⟩ (.int .u32 x.v)).setCell ⟨g, i + 3, none⟩ (.int .i64 x.t)).setCell ⟨g, i + 4, none⟩ (.bool x.ld)).setCell ⟨g, i + 5, none⟩ (.int .u64 x.saw)).setCell ⟨g, i + 6, none⟩ (.int .i64 x.at_)).setCell ⟨g, i + 7, none⟩ (sl x.last)).setCell ⟨g, i + 8, none⟩ (sl x.now)).setCell ⟨g, i + 9, none⟩ (.bool x.en)).setCell ⟨g, i + 10, none⟩ (sl x.regs)).setCell ⟨g, i + 11, none⟩ (.bool x.cl)).setCell ⟨g, i + 12, none⟩ (.int .i64 x.co)
theorem undSet_part (w : World) (g i : Nat) (x : DU) : Part [g] w (undSet w g i x) := by
  unfold undSet
  repeat (first | (with_reducible exact Part.refl _ _) | refine Part.set ?_ (by simp) _)
section
variable {w : World} {base g n c q : Nat} {xs : List DU} {x y : DU}
theorem un_cells (h : w.ownsRow base 45 13 (.slice (some ⟨g, 0, none⟩) n c) n (unCells xs)) (hp : xs[q]? = some x) :
    w.cell? ⟨g, q * 13, none⟩ = some (.int .u8 x.k) ∧ w.cell? ⟨g, q * 13 + 1, none⟩ = some (.int .i64 x.r) ∧ w.cell? ⟨g, q * 13 + 2, none⟩ = some (.int .u32 x.v) ∧ w.cell? ⟨g, q * 13 + 3, none⟩ = some (.int .i64 x.t) ∧ w.cell? ⟨g, q * 13 + 4, none⟩ = some (.bool x.ld) ∧ w.cell? ⟨g, q * 13 + 5, none⟩ = some (.int .u64 x.saw) ∧ w.cell? ⟨g, q * 13 + 6, none⟩ = some (.int .i64 x.at_) ∧ w.cell? ⟨g, q * 13 + 7, none⟩ = some (sl x.last) ∧ w.cell? ⟨g, q * 13 + 8, none⟩ = some (sl x.now) ∧ w.cell? ⟨g, q * 13 + 9, none⟩ = some (.bool x.en) ∧ w.cell? ⟨g, q * 13 + 10, none⟩ = some (sl x.regs) ∧ w.cell? ⟨g, q * 13 + 11, none⟩ = some (.bool x.cl) ∧ w.cell? ⟨g, q * 13 + 12, none⟩ = some (.int .i64 x.co) :=
  ⟨by simpa using own_cell h ((unCells_get hp 0 (by omega)).trans rfl), own_cell h ((unCells_get hp 1 (by omega)).trans rfl), own_cell h ((unCells_get hp 2 (by omega)).trans rfl), own_cell h ((unCells_get hp 3 (by omega)).trans rfl), own_cell h ((unCells_get hp 4 (by omega)).trans rfl), own_cell h ((unCells_get hp 5 (by omega)).trans rfl), own_cell h ((unCells_get hp 6 (by omega)).trans rfl), own_cell h ((unCells_get hp 7 (by omega)).trans rfl), own_cell h ((unCells_get hp 8 (by omega)).trans rfl), own_cell h ((unCells_get hp 9 (by omega)).trans rfl), own_cell h ((unCells_get hp 10 (by omega)).trans rfl), own_cell h ((unCells_get hp 11 (by omega)).trans rfl), own_cell h ((unCells_get hp 12 (by omega)).trans rfl)⟩
theorem un_stored (h : w.ownsRow base 45 13 (.slice (some ⟨g, 0, none⟩) n c) n (unCells xs)) (hp : xs[q]? = some y) :
    (undSet w g (q * 13) x).ownsRow base 45 13 (.slice (some ⟨g, 0, none⟩) n c) n (unCells (xs.set q x)) := by
  have h0 := (h.stored (q * 13) (.int .u8 x.k)).1
  have h1 := (h0.stored (q * 13 + 1) (.int .i64 x.r)).1
  have h2 := (h1.stored (q * 13 + 2) (.int .u32 x.v)).1
  have h3 := (h2.stored (q * 13 + 3) (.int .i64 x.t)).1
  have h4 := (h3.stored (q * 13 + 4) (.bool x.ld)).1
  have h5 := (h4.stored (q * 13 + 5) (.int .u64 x.saw)).1
  have h6 := (h5.stored (q * 13 + 6) (.int .i64 x.at_)).1
  have h7 := (h6.stored (q * 13 + 7) (sl x.last)).1
  have h8 := (h7.stored (q * 13 + 8) (sl x.now)).1
  have h9 := (h8.stored (q * 13 + 9) (.bool x.en)).1
  have h10 := (h9.stored (q * 13 + 10) (sl x.regs)).1
  have h11 := (h10.stored (q * 13 + 11) (.bool x.cl)).1
  have h12 := (h11.stored (q * 13 + 12) (.int .i64 x.co)).1
  rw [unCells_set hp] at h12
  exact h12
end
/-- the registers and their operations under way (wc, oc); the document's operations and words (od, wd), its records xs; X: the blocks of its lists -/
structure AllQ (W : World) (n br bk bw : Nat) (wc : List Int) (oc : List OpQ) (bs : List Nat) (Fs : List (List Nat)) (wd : List Int) (od : List OpQ) (xs : List DU) (vp vu : Value) (s : Option Addr × Nat × Nat) (X : List Nat) (wr : World) : Prop where
  st : SnSt W n br bk bw wc wr
  ps : wr.ownsRow W.heap.size 31 1 vp bs.length (ptrs bs)
  un : wr.ownsRow W.heap.size 45 13 vu bs.length (unCells xs)
  pends : PendsQ wr W.heap.size bk n (br :: bk :: bw :: (vp.ownBlock.toList ++ vu.ownBlock.toList ++ X)) oc bs Fs
  doc : ListU W X wr s wd
  docs : ∀ (q : Nat) (o : OpQ) (x : DU), od[q]? = some o → xs[q]? = some x → DocQ W X wr o x
  inv : ∀ o ∈ od, InvQ n o
  lenx : xs.length = bs.length
  leno : od.length = bs.length
  xb : bw ∉ X
theorem RegsU.partX {W w w' : World} {X : List Nat} {s : Option Addr × Nat × Nat} {xs : List Int} {S : List Nat} (h : RegsU W X w s xs) (hP : Part S w w') (hS : ∀ q ∈ X, q ∉ S) : RegsU W X w' s xs := h.part hP (fun q e => hS q (h.2.2 q e))
theorem ListU.partX {W w w' : World} {X : List Nat} {s : Option Addr × Nat × Nat} {xs : List Int} {S : List Nat} (h : ListU W X w s xs) (hP : Part S w w') (hS : ∀ q ∈ X, q ∉ S) : ListU W X w' s xs := by
  rcases h with h | ⟨a, b, c⟩
  · exact .inl h
  · exact .inr ⟨own_part a hP (fun q e => hS q (c q e)), b, c⟩
theorem DocQ.partX {W w w' : World} {X : List Nat} {o : OpQ} {x : DU} {S : List Nat} (h : DocQ W X w o x) (hP : Part S w w') (hS : ∀ q ∈ X, q ∉ S) : DocQ W X w' o x :=
  ⟨h.k, h.r, h.v, h.t, h.en, h.put, h.get, fun a c => by
    obtain ⟨l', m, e, h1, h2⟩ := h.scan a c
    exact ⟨l', m, e, h1.partX hP hS, h2.partX hP hS⟩, fun a => ⟨(h.over a).1.partX hP hS, (h.over a).2⟩⟩
theorem s_block (s : Option Addr × Nat × Nat) : (sl s).ownBlock = none ∨ ∃ q, (sl s).ownBlock = some q := by
  cases h : (sl s).ownBlock with
  | none => exact .inl rfl
  | some q => exact .inr ⟨q, rfl⟩
theorem sl_none {w w' : World} {base n size : Nat} {e : TypeId} {s : Option Addr × Nat × Nat} {xs : List Value} (h : w.ownsRow base e size (sl s) n xs) (hs : (sl s).ownBlock = none) : w'.ownsRow base e size (sl s) n xs := by
  refine ⟨h.1, ?_⟩
  rcases h.2 with h2 | ⟨g, cap, cur, hv, _⟩
  · exact .inl h2
  · rw [hv] at hs; cases hs
section
variable {W wr w1 w5 w6 w7 : World} {n br bk bw : Nat} {wc wd : List Int} {oc od : List OpQ} {bs X : List Nat} {Fs : List (List Nat)} {xs : List DU} {vp vu vp' vu' : Value} {s s' : Option Addr × Nat × Nat}
theorem AllQ.on (h : AllQ W n br bk bw wc oc bs Fs wd od xs vp vu s X wr) (hb : Below wr.heap.size wr w1) : AllQ W n br bk bw wc oc bs Fs wd od xs vp vu s X w1 :=
  ⟨h.st.on hb, own_part h.ps (Part.of_below hb (Nat.le_refl _) []) (by simp), own_part h.un (Part.of_below hb (Nat.le_refl _) []) (by simp), h.pends.below hb, h.doc.on hb, fun q o x ho hx => (h.docs q o x ho hx).on hb, h.inv, h.lenx, h.leno, h.xb⟩
theorem AllQ.alloc (h : AllQ W n br bk bw wc oc bs Fs wd od xs vp vu s X wr) (o : Obj) : AllQ W n br bk bw wc oc bs Fs wd od xs vp vu s X (wr.alloc o) := h.on ((Below.refl _ _).alloc (Nat.le_refl _) o)
theorem AllQ.drewN (h : AllQ W n br bk bw wc oc bs Fs wd od xs vp vu s X wr) (m : Nat) : AllQ W n br bk bw wc oc bs Fs wd od xs vp vu s X (wr.drewN m) := h.on (Below.draws (Below.refl _ _) m)
theorem AllQ.nil (h : SnSt W n br bk bw wc wr) : AllQ W n br bk bw wc [] [] [] [] [] [] (.slice none 0 0) (.slice none 0 0) nilU [] wr :=
  ⟨h, World.ownsRow_nil _ _ _ _, World.ownsRow_nil _ _ _ _, PendsQ.nil _ _ _ _ (fun x hx => by
    simp [Value.ownBlock] at hx
    rcases hx with rfl | rfl | rfl
    · exact h.regs.head.lt
    · exact h.regs.words.head.lt
    · exact h.regs.words.row.lt), .inl ⟨rfl, rfl⟩, by simp, by simp, rfl, rfl, by simp⟩
/-- behind what turns a block of another type, that is none's -/
theorem AllQ.off {g : Nat} {t : TypeId} {l : List Value} (h : AllQ W n br bk bw wc oc bs Fs wd od xs vp vu s X wr) (hg : Row wr g t l) (hF : ∀ F ∈ Fs, g ∉ F) (hlo : W.heap.size ≤ g) (hP : Part [g] wr w1)
    (n1 : 78 ≠ t) (n2 : 94 ≠ t) (n3 : 108 ≠ t) (n4 : 31 ≠ t) (n5 : 45 ≠ t) (n6 : 39 ≠ t) (n7 : 60 ≠ t) : AllQ W n br bk bw wc oc bs Fs wd od xs vp vu s X w1 :=
  ⟨h.st.off hg hlo hP n1 n2 n3, own_part h.ps hP (fun q hq => by simpa using own_off h.ps hg n4 q hq), own_part h.un hP (fun q hq => by simpa using own_off h.un hg n5 q hq),
   h.pends.part hP (fun F hFm q hq => by simp; rintro rfl; exact hF F hFm hq), h.doc.part hP (fun q hq => by simpa using h.doc.off hg n6 q hq), fun q o x ho hx => (h.docs q o x ho hx).part hg hP n6 n7, h.inv, h.lenx, h.leno, h.xb⟩
/-- the code's operation is stepped -/
theorem AllQ.code {q b : Nat} {o : OpQ} {F F' : List Nat} (h : AllQ W n br bk bw wc oc bs Fs wd od xs vp vu s X wr) (ho : oc[q]? = some o) (hb : bs[q]? = some b) (hF : Fs[q]? = some F)
    (hW : Words w1 bk bw (stepQW wc o)) (hq : PendQ w1 W.heap.size bk n b (stepQ wc o) F') (hF' : ∀ x ∈ F', x ∈ F ∨ wr.heap.size ≤ x) (hP : Part (bw :: F) wr w1) : AllQ W n br bk bw (stepQW wc o) (oc.set q (stepQ wc o)) bs (Fs.set q F') wd od xs vp vu s X w1 := by
  have hFm := List.mem_of_getElem? hF
  have hok := h.pends.ok o (List.mem_of_getElem? ho)
  have off : ∀ x, x ∈ br :: bk :: bw :: (vp.ownBlock.toList ++ vu.ownBlock.toList ++ X) → x ≠ bw → x ∉ bw :: F := fun x hx hne hm => by
    rcases List.mem_cons.1 hm with e | hm
    · exact hne e
    · exact h.pends.off F hFm x hm hx
  have offX : ∀ x ∈ X, x ∉ bw :: F := fun x hx => off x (by simp [hx]) (fun e => h.xb (e ▸ hx))
  refine ⟨⟨h.st.regs.next hP hW (off br (by simp) h.st.regs.ne) (stepQW_length _ _), (stepQW_length _ _).trans h.st.len, h.st.lo, h.st.low.trans (hP.below h.st.low.size (fun x hx => ?_))⟩, ?_, ?_, ?_, h.doc.partX hP offX, fun q o x ho hx => (h.docs q o x ho hx).partX hP offX, h.inv, h.lenx, h.leno, h.xb⟩
  · rcases List.mem_cons.1 hx with rfl | hx
    · exact h.st.lo
    · exact (h.pends.lt hFm hx).1
  · exact own_part h.ps hP (fun x hx => off x (by simp [hx]) (own_off h.ps h.st.regs.words.row (by decide) x hx))
  · exact own_part h.un hP (fun x hx => off x (by simp [hx]) (own_off h.un h.st.regs.words.row (by decide) x hx))
  · exact h.pends.step hb hF hP (by simp) hq hF' (stepQ_ok h.st.regs.words.ok h.st.len hok)
/-- the document's operation is stepped, its record stored -/
theorem AllQ.next {q gu cu : Nat} {o : OpQ} {x x' : DU} {Y : List Nat} (h : AllQ W n br bk bw wc oc bs Fs wd od xs vp (.slice (some ⟨gu, 0, none⟩) bs.length cu) s X wr) (ho : od[q]? = some o) (hx : xs[q]? = some x)
    (hb : Below wr.heap.size wr w1) (hY : ∀ y ∈ Y, wr.heap.size ≤ y ∧ y < w1.heap.size) (hL : ListU W (Y ++ X) w1 s' (stepQW wd o)) (hD : DocQ W (Y ++ X) w1 (stepQ wd o) x') (hok : OkQ n o) (hwd : wd.length = n) (hu : ∀ y ∈ wd, U64 y) :
    AllQ W n br bk bw wc oc bs Fs (stepQW wd o) (od.set q (stepQ wd o)) (xs.set q x') vp (.slice (some ⟨gu, 0, none⟩) bs.length cu) s' (Y ++ X) (undSet w1 gu (q * 13) x') := by
  have h1 := h.on hb
  have hP := undSet_part w1 gu (q * 13) x'
  have hlo := own_from h.un gu rfl
  have hr := h1.st.regs
  have hgr : ∀ {b : Nat} {t : TypeId} {l : List Value}, Row w1 b t l → 45 ≠ t → b ≠ gu := fun hr0 ht e => own_off h1.un hr0 ht gu rfl e.symm
  have hap : ∀ {e : TypeId} {size k : Nat} {v : Value} {l : List Value}, w1.ownsRow W.heap.size e size v k l → e ≠ 45 → ∀ r, v.ownBlock = some r → r ∉ [gu] := fun h0 ht r hr => by
    simp
    rintro rfl
    rcases own_apart h0 h1.un ht with e | e
    · rw [hr] at e; cases e
    · rw [hr] at e; exact e rfl
  have hlu : ∀ {X' : List Nat} {a : Option Addr × Nat × Nat} {l : List Int}, ListU W X' w1 a l → ListU W X' (undSet w1 gu (q * 13) x') a l := fun hl => by
    rcases hl with hl | ⟨a, b, c⟩
    · exact .inl hl
    · exact .inr ⟨own_part a hP (hap a (by decide)), b, c⟩
  have hdq : ∀ {X' : List Nat} {a : OpQ} {l : DU}, DocQ W X' w1 a l → DocQ W X' (undSet w1 gu (q * 13) x') a l := fun hd =>
    ⟨hd.k, hd.r, hd.v, hd.t, hd.en, hd.put, hd.get, fun a c => by
      obtain ⟨l', m, e, h1, h2⟩ := hd.scan a c
      exact ⟨l', m, e, hlu h1, hlu h2⟩, fun a => ⟨⟨own_part (hd.over a).1.1 hP (hap (hd.over a).1.1 (by decide)), (hd.over a).1.2⟩, (hd.over a).2⟩⟩
  refine ⟨⟨hr.part hP (by simpa using hgr hr.head (by decide)) (by simpa using hgr hr.words.head (by decide)) (by simpa using hgr hr.words.row (by decide)), h1.st.len, h1.st.lo, h1.st.low.trans (hP.below h1.st.low.size (by simpa using hlo))⟩, own_part h1.ps hP (hap h1.ps (by decide)), un_stored h1.un hx, ?_, hlu hL, fun q' o' x'' ho' hx' => ?_, fun z hz => ?_, by rw [List.length_set]; exact h.lenx, by rw [List.length_set]; exact h.leno, fun hm => ?_⟩
  · refine (h1.pends.part hP (fun F hF r hr => by simp; rintro rfl; exact h1.pends.off F hF _ hr (by simp [Value.ownBlock]))).withX (fun y hy => ?_)
    simp only [List.mem_cons, List.mem_append, List.append_assoc] at hy ⊢
    rcases hy with e | e | e | e | e | e | e
    · exact .inl (.inl e)
    · exact .inl (.inr (.inl e))
    · exact .inl (.inr (.inr (.inl e)))
    · exact .inl (.inr (.inr (.inr (.inl e))))
    · exact .inl (.inr (.inr (.inr (.inr (.inl e)))))
    · exact .inr ⟨fun F hF hm => by have := (h.pends.lt hF hm).2; have := (hY y e).1; omega, Nat.lt_of_lt_of_le (hY y e).2 hP.size⟩
    · exact .inl (.inr (.inr (.inr (.inr (.inr e)))))
  · by_cases e : q' = q
    · subst e
      rw [List.getElem?_set_self (lt_of_get ho)] at ho'
      rw [List.getElem?_set_self (lt_of_get hx)] at hx'
      cases ho'
      cases hx'
      exact hdq hD
    · rw [List.getElem?_set_ne (fun e' => e e'.symm)] at ho' hx'
      exact hdq ((h1.docs q' o' x'' ho' hx').wide in_app)
  · rcases List.mem_or_eq_of_mem_set hz with hz | rfl
    · exact h.inv z hz
    · exact (h.inv o (List.mem_of_getElem? ho)).step hok hwd hu
  · rcases List.mem_append.1 hm with hm | hm
    · have := (hY bw hm).1
      have := h.st.regs.words.row.lt
      omega
    · exact h.xb hm
/-- one operation more: the document's record first -/
theorem AllQ.grow {op : Int × Int × Int × Int} {bp g6 c6 g7 c7 : Nat} {ob ob' : Obj} (h : AllQ W n br bk bw wc oc bs Fs [] oc xs vp vu nilU [] wr) (hr : rightS n op.1 op.2.1 op.2.2.1 op.2.2.2 = true) (hn0 : 0 < n) (hb5 : Below wr.heap.size wr w5) (hq : PendQ w5 W.heap.size bk n bp (newQ op) [bp]) (hn : wr.heap.size ≤ bp) (ho : OkQ n (newQ op))
    (h6 : w6.ownsRow W.heap.size 45 13 (.slice (some ⟨g6, 0, none⟩) (bs.length + 1) c6) (bs.length + 1) (unCells xs ++ (DU.mk op.1 op.2.1 op.2.2.1 op.2.2.2 false 0 0 nilU nilU false nilU false 0).cells)) (hg6 : (w5.alloc ob).grownBy w6 vu.ownBlock) (hat6 : vu.ownBlock = some g6 ∨ g6 = (w5.alloc ob).heap.size)
    (h7 : w7.ownsRow W.heap.size 31 1 (.slice (some ⟨g7, 0, none⟩) (bs.length + 1) c7) (bs.length + 1) (ptrs bs ++ [.pointer (some ⟨bp, 0, none⟩)])) (hg7 : (w6.alloc ob').grownBy w7 vp.ownBlock) (hat7 : vp.ownBlock = some g7 ∨ g7 = (w6.alloc ob').heap.size) :
    AllQ W n br bk bw wc (oc ++ [newQ op]) (bs ++ [bp]) (Fs ++ [[bp]]) [] (oc ++ [newQ op]) (xs ++ [DU.mk op.1 op.2.1 op.2.2.1 op.2.2.2 false 0 0 nilU nilU false nilU false 0]) (.slice (some ⟨g7, 0, none⟩) (bs.length + 1) c7) (.slice (some ⟨g6, 0, none⟩) (bs.length + 1) c6) nilU [] w7 := by
  have h5 := h.on hb5
  have st5 := h5.st.on ((Below.refl _ _).alloc (Nat.le_refl _) ob)
  have ps5 := h5.ps.alloc ob
  have un5 := h5.un.alloc ob
  have st6 := st5.grown un5 (Nat.le_refl _) hg6 (by decide) (by decide) (by decide)
  have ps6 := ps5.kept hg6 (own_apart ps5 un5 (by decide))
  have st7 := (st6.on ((Below.refl _ _).alloc (Nat.le_refl _) ob')).grown (ps6.alloc ob') (Nat.le_refl _) hg7 (by decide) (by decide) (by decide)
  have un7 := (h6.alloc ob').kept hg7 (own_apart (h6.alloc ob') (ps6.alloc ob') (by decide))
  have p5 := (h.pends.snoc hb5 hq hn ho).below ((Below.refl _ _).alloc (Nat.le_refl _) ob)
  have p6 : PendsQ w6 W.heap.size bk n (br :: bk :: bw :: g6 :: vp.ownBlock.toList) (oc ++ [newQ op]) (bs ++ [bp]) (Fs ++ [[bp]]) := p5.regrow hg6 (fun q e => by simp [e]) hat6 (own_block h6 g6 rfl) (fun y hy => by
    simp at hy ⊢
    rcases hy with e | e | e | e | e
    · exact .inl (.inl e)
    · exact .inl (.inr (.inl e))
    · exact .inl (.inr (.inr (.inl e)))
    · exact .inr e
    · exact .inl (.inr (.inr (.inr (.inl e)))))
  have p7 : PendsQ w7 W.heap.size bk n (br :: bk :: bw :: g7 :: g6 :: []) (oc ++ [newQ op]) (bs ++ [bp]) (Fs ++ [[bp]]) := (p6.below ((Below.refl _ _).alloc (Nat.le_refl _) ob')).regrow hg7 (fun q e => by simp [e]) hat7 (own_block h7 g7 rfl) (fun y hy => by
    simp at hy ⊢
    rcases hy with e | e | e | e | e
    · exact .inl (.inl e)
    · exact .inl (.inr (.inl e))
    · exact .inl (.inr (.inr (.inl e)))
    · exact .inr e
    · exact .inl (.inr (.inr (.inr (.inl e)))))
  refine ⟨st7, ?_, ?_, p7, .inl ⟨rfl, rfl⟩, fun q o x ho' hx' => ?_, fun z hz => ?_, by simp [h.lenx], by simp [h.leno], by simp⟩
  · rw [List.length_append, List.length_singleton, ← ptrs_snoc]
    exact h7
  · rw [List.length_append, List.length_singleton, ← unCells_snoc]
    exact un7
  · rcases get_snoc ho' with ⟨_, ho1⟩ | ⟨e1, rfl⟩
    · rcases get_snoc hx' with ⟨_, hx1⟩ | ⟨e2, _⟩
      · obtain ⟨a, b, c, d, e, f, g, i, j⟩ := h.docs q o x ho1 hx1
        exact ⟨a, b, c, d, e, f, g, fun k p => by
          obtain ⟨l, m, e, h1, h2⟩ := i k p
          have no : ∀ {s : Option Addr × Nat × Nat} {l : List Int}, ListU W [] wr s l → ListU W [] w7 s l := fun hl => by
            rcases hl with hl | ⟨a, b, c⟩
            · exact .inl hl
            · rcases s_block ‹_› with e | ⟨q, e⟩
              · exact .inr ⟨sl_none a e, b, c⟩
              · exact absurd (c q e) (by simp)
          exact ⟨l, m, e, no h1, no h2⟩, fun p => by
          obtain ⟨r, r2⟩ := j p
          refine ⟨⟨?_, r.2⟩, r2⟩
          rcases s_block x.regs with e | ⟨q, e⟩
          · exact sl_none r.1 e
          · exact absurd (r.2.2 q e) (by simp)⟩
      · exfalso; have := lt_of_get ho1; have := h.leno; have := h.lenx; omega
    · rcases get_snoc hx' with ⟨h2, _⟩ | ⟨_, rfl⟩
      · exfalso; have := h.leno; have := h.lenx; omega
      · exact doc_new [] hr
  · rcases List.mem_append.1 hz with hz | hz
    · exact h.inv z hz
    · simp at hz; subst hz; exact InvQ.new hn0 op
/-- the document's words are made -/
theorem AllQ.begin {cap : Nat} (h : AllQ W n br bk bw wc oc bs Fs [] od xs vp vu nilU [] wr) (hb : Below wr.heap.size wr w1) (ho : w1.ownsRow wr.heap.size 39 1 (.slice (some ⟨wr.heap.size, 0, none⟩) n cap) n (u64s wc)) :
    AllQ W n br bk bw wc oc bs Fs wc od xs vp vu (some ⟨wr.heap.size, 0, none⟩, n, cap) [wr.heap.size] w1 := by
  have h1 := h.on hb
  have hl := h.st.len
  subst hl
  have hlt := own_lt ho _ rfl
  refine ⟨h1.st, h1.ps, h1.un, h1.pends.withX (fun y hy => ?_), .inr ⟨ownsRow_base ho h.st.low.size, rfl, fun q e => by simp [sl, Value.ownBlock] at e ⊢; omega⟩, fun q o x ho hx => (h1.docs q o x ho hx).wide (by simp), h.inv, h.lenx, h.leno, ?_⟩
  · simp at hy ⊢
    rcases hy with e | e | e | e | e | e
    · exact .inl (.inl e)
    · exact .inl (.inr (.inl e))
    · exact .inl (.inr (.inr (.inl e)))
    · exact .inl (.inr (.inr (.inr (.inl e))))
    · exact .inl (.inr (.inr (.inr (.inr e))))
    · subst e
      exact .inr ⟨fun F hF hm => by have := (h.pends.lt hF hm).2; omega, hlt⟩
  · have := h.st.regs.words.row.lt
    simp
    omega
/-- one of them -/
theorem AllQ.get {q : Nat} (h : AllQ W n br bk bw wc oc bs Fs wd oc xs vp vu s X wr) (hq : q < bs.length) : ∃ o b F x gp cp gu cu, oc[q]? = some o ∧ bs[q]? = some b ∧ Fs[q]? = some F ∧ xs[q]? = some x ∧ PendQ wr W.heap.size bk n b o F ∧ OkQ n o ∧ DocQ W X wr o x ∧ InvQ n o ∧ vp = .slice (some ⟨gp, 0, none⟩) bs.length cp ∧ vu = .slice (some ⟨gu, 0, none⟩) bs.length cu ∧
    wr.cell? ⟨gp, q, none⟩ = some (.pointer (some ⟨b, 0, none⟩)) ∧ gp < wr.heap.size ∧ gu < wr.heap.size ∧ gp ≠ gu := by
  obtain ⟨o, b, F, h1, h2, h3, h4, h5⟩ := h.pends.get hq
  obtain ⟨gp, cp, rfl, _, hgp⟩ := own_some h.ps (by omega)
  obtain ⟨gu, cu, rfl, _, hgu⟩ := own_some h.un (by omega)
  have hx : xs[q]? = some (xs[q]'(by rw [h.lenx]; exact hq)) := List.getElem?_eq_getElem _
  refine ⟨o, b, F, _, gp, cp, gu, cu, h1, h2, h3, hx, h4, h5, h.docs q o _ h1 hx, h.inv o (List.mem_of_getElem? h1), rfl, rfl, own_cell h.ps (ptrs_get h2), hgp, hgu, ?_⟩
  rintro rfl
  rcases own_apart h.ps h.un (by decide) with e | e
  · cases e
  · exact e rfl
end
end Go.Proofs.Ytdadgppbpomdoaa
