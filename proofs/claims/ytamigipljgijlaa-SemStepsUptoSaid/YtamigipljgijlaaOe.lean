/- THE DOCUMENT's RECORDS OF A SEMAPHORE's OPERATIONS IN A LIST; code and document side by side. -/
import Derived.Test.YtamigipljgijlaaOb
import Derived.Test.YtamigipljgijlaaOd
import Derived.Test.YtamigipljgijlaaEx
namespace Go.Proofs.Ytamigipljgijlaa
open Go Go.RowKit
set_option maxRecDepth 100000
abbrev DocSP := OpS × DocS
def undSP (x : DocSP) : List Value := undS x.1.k x.2
def unCellsS (xs : List DocSP) : List Value := xs.flatMap undSP
theorem duS_length (x : DocSP) : (undSP x).length = 7 := rfl
theorem unCellsS_snoc (xs : List DocSP) (x : DocSP) : unCellsS xs ++ undSP x = unCellsS (xs ++ [x]) := by simp [unCellsS]
theorem unCellsS_get {xs : List DocSP} : ∀ {q : Nat} {x : DocSP}, xs[q]? = some x → ∀ j, j < 7 → (unCellsS xs)[q * 7 + j]? = (undSP x)[j]? := by
  induction xs with
  | nil => intro q x h; simp at h
  | cons a xs ih =>
    intro q x h j hj
    have e : unCellsS (a :: xs) = undSP a ++ unCellsS xs := rfl
    rw [e]
    cases q with
    | zero => simp at h; subst h; rw [List.getElem?_append_left (by rw [duS_length]; omega)]; simp
    | succ q =>
      simp at h
      rw [List.getElem?_append_right (by rw [duS_length]; omega), duS_length]
      have e1 : (q + 1) * 7 + j - 7 = q * 7 + j := by omega
      rw [e1]
      exact ih h j hj
theorem unS_app_set {a l : List Value} {m : Nat} {v : Value} (ha : a.length = 7) : (a ++ l).set (m + 7) v = a ++ l.set m v := by
  rw [List.set_append, if_neg (by omega)]
  congr 2
  omega
theorem unCellsS_set {xs : List DocSP} {x : DocSP} : ∀ {q : Nat} {y : DocSP}, xs[q]? = some y →
    ((((((((unCellsS xs).set (q * 7) (.int .u8 x.1.k)).set (q * 7 + 1) (.int .i64 x.2.at_)).set (q * 7 + 2) (.int .u64 x.2.fi)).set (q * 7 + 3) (.int .u64 x.2.la)).set (q * 7 + 4) (.bool x.2.en)).set (q * 7 + 5) (.int .u64 x.2.su)).set (q * 7 + 6) (.int .i64 x.2.wy)) = unCellsS (xs.set q x) := by
  induction xs with
  | nil => intro q y h; simp at h
  | cons a xs ih =>
    intro q y h
    have e : unCellsS (a :: xs) = undSP a ++ unCellsS xs := rfl
    rw [e]
    cases q with
    | zero => rfl
    | succ q =>
      simp at h
      have e0 : (q + 1) * 7 = q * 7 + 7 := by omega
      have e1 : (q + 1) * 7 + 1 = q * 7 + 1 + 7 := by omega
      have e2 : (q + 1) * 7 + 2 = q * 7 + 2 + 7 := by omega
      have e3 : (q + 1) * 7 + 3 = q * 7 + 3 + 7 := by omega
      have e4 : (q + 1) * 7 + 4 = q * 7 + 4 + 7 := by omega
      have e5 : (q + 1) * 7 + 5 = q * 7 + 5 + 7 := by omega
      have e6 : (q + 1) * 7 + 6 = q * 7 + 6 + 7 := by omega
      rw [e6, e5, e4, e3, e2, e1, e0, unS_app_set (duS_length a), unS_app_set (duS_length a), unS_app_set (duS_length a), unS_app_set (duS_length a), unS_app_set (duS_length a), unS_app_set (duS_length a), unS_app_set (duS_length a)]
      rw [ih h]
      rfl
theorem duS_one (x : DocSP) : ∀ u ∈ undSP x, u.oneCell' = true := by
  intro u hu
  simp [undSP, undS] at hu
  rcases hu with rfl | rfl | rfl | rfl | rfl | rfl | rfl <;> rfl
theorem infoUNS : (Try.prog.info? 40).map (fun i => (i.zero, i.size, i.bytes)) = some (some (.agg #[.int .u8 0, .int .i64 0, .int .u64 0, .int .u64 0, .bool false, .int .u64 0, .int .i64 0]), 7, 56) := by kernel_rfl
/-- seven stores -/
def undSetS (w : World) (g i : Nat) (x : DocSP) : World := (((((((w.setCell ⟨g, i, none⟩ (.int .u8 x.1.k)).setCell ⟨g, i + 1, none⟩ (.int .i64 x.2.at_)).setCell ⟨g, i + 2, none⟩ (.int .u64 x.2.fi)).setCell ⟨g, i + 3, none⟩ (.int .u64 x.2.la)).setCell ⟨g, i + 4, none⟩ (.bool x.2.en)).setCell ⟨g, i + 5, none⟩ (.int .u64 x.2.su)).setCell ⟨g, i + 6, none⟩ (.int .i64 x.2.wy))
theorem undSetS_part (w : World) (g i : Nat) (x : DocSP) : Part [g] w (undSetS w g i x) := by
  unfold undSetS
  repeat (first | (with_reducible exact Part.refl _ _) | refine Part.set ?_ (by simp) _)
section
variable {w : World} {base g n c q : Nat} {xs : List DocSP} {x y : DocSP}
theorem unS_cells (h : w.ownsRow base 40 7 (.slice (some ⟨g, 0, none⟩) n c) n (unCellsS xs)) (hp : xs[q]? = some x) :
    w.cell? ⟨g, q * 7, none⟩ = some (.int .u8 x.1.k) ∧ w.cell? ⟨g, q * 7 + 1, none⟩ = some (.int .i64 x.2.at_) ∧ w.cell? ⟨g, q * 7 + 2, none⟩ = some (.int .u64 x.2.fi) ∧ w.cell? ⟨g, q * 7 + 3, none⟩ = some (.int .u64 x.2.la) ∧ w.cell? ⟨g, q * 7 + 4, none⟩ = some (.bool x.2.en) ∧ w.cell? ⟨g, q * 7 + 5, none⟩ = some (.int .u64 x.2.su) ∧ w.cell? ⟨g, q * 7 + 6, none⟩ = some (.int .i64 x.2.wy) :=
  ⟨by simpa using own_cell h ((unCellsS_get hp 0 (by omega)).trans rfl), own_cell h ((unCellsS_get hp 1 (by omega)).trans rfl), own_cell h ((unCellsS_get hp 2 (by omega)).trans rfl), own_cell h ((unCellsS_get hp 3 (by omega)).trans rfl), own_cell h ((unCellsS_get hp 4 (by omega)).trans rfl), own_cell h ((unCellsS_get hp 5 (by omega)).trans rfl), own_cell h ((unCellsS_get hp 6 (by omega)).trans rfl)⟩
theorem unS_stored (h : w.ownsRow base 40 7 (.slice (some ⟨g, 0, none⟩) n c) n (unCellsS xs)) (hp : xs[q]? = some y) :
    (undSetS w g (q * 7) x).ownsRow base 40 7 (.slice (some ⟨g, 0, none⟩) n c) n (unCellsS (xs.set q x)) := by
  have h0 := (h.stored (q * 7) (.int .u8 x.1.k)).1
  have h1 := (h0.stored (q * 7 + 1) (.int .i64 x.2.at_)).1
  have h2 := (h1.stored (q * 7 + 2) (.int .u64 x.2.fi)).1
  have h3 := (h2.stored (q * 7 + 3) (.int .u64 x.2.la)).1
  have h4 := (h3.stored (q * 7 + 4) (.bool x.2.en)).1
  have h5 := (h4.stored (q * 7 + 5) (.int .u64 x.2.su)).1
  have h6 := (h5.stored (q * 7 + 6) (.int .i64 x.2.wy)).1
  rw [unCellsS_set hp] at h6
  exact h6
end
/-- the code's operations (d, g its words), the document's records and its book (dd, gg) -/
structure AllSm (W : World) (bsem bk bw bx : Nat) (pl d g dd gg : Int) (os : List OpS) (xs : List DocSP) (bs : List Nat) (vp vu : Value) (w : World) : Prop where
  crowd : CrowdS W bsem bk bw pl d g os bs vp w
  un : w.ownsRow W.heap.size 40 7 vu bs.length (unCellsS xs)
  box : Row w bx 31 [.int .u64 pl, .int .u64 dd, .int .u64 gg]
  blo : W.heap.size ≤ bx
  len : xs.length = bs.length
  inv : ∀ x, x ∈ xs → InvS x.1 x.2
  ok : ∀ x, x ∈ xs → OkS x.1
section
variable {W w w1 : World} {bsem bk bw bx z : Nat} {pl d g d' g' dd gg : Int} {os : List OpS} {xs : List DocSP} {bs : List Nat} {vp vu : Value} {t : TypeId} {l : List Value}
theorem otherT_ne (h : otherT t = true) : t = 40 ∨ t = 31 := by
  simp [otherT] at h
  exact h
/-- behind stores into a block that is the document's -/
theorem CrowdS.far (h : CrowdS W bsem bk bw pl d g os bs vp w) (hz : Row w z t l) (ht : otherT t = true) (hlo : W.heap.size ≤ z) (hP : Part [z] w w1) : CrowdS W bsem bk bw pl d g os bs vp w1 := by
  have hH : Hard [z] w := fun q hq => by
    rw [List.mem_singleton.1 hq]
    exact ⟨_, _, hz, .inr (.inr (.inr (.inr (.inr (.inr ht)))))⟩
  have ne : ∀ {b : Nat} {t' : TypeId} {l' : List Value}, Row w b t' l' → otherT t' = false → b ∉ [z] := fun hr h' => by
    simpa using hr.ne hz (fun e => by rw [e, ht] at h'; cases h')
  have off : ∀ q, vp.ownBlock = some q → q ∉ [z] := fun q hq => by
    have := own_off h.ps hz (fun e => by rw [← e] at ht; exact absurd ht (by decide)) q hq
    simpa using this
  refine ⟨⟨h.sem.head.part hP (ne h.sem.head (by decide)), h.sem.words.part hP (ne h.sem.words.head (by decide)) (ne h.sem.words.row (by decide))⟩, own_part h.ps hP off, h.pends.part hP hH (fun b hb => ?_), h.lo, h.low.trans (hP.below h.low.size (fun k hk => by rw [List.mem_singleton.1 hk]; exact hlo))⟩
  obtain ⟨l', hl⟩ := h.pends.at_ hb
  exact ne hl (by decide)
theorem AllSm.on (h : AllSm W bsem bk bw bx pl d g dd gg os xs bs vp vu w) (hb : Below w.heap.size w w1) : AllSm W bsem bk bw bx pl d g dd gg os xs bs vp vu w1 :=
  ⟨h.crowd.on hb, own_part h.un (Part.of_below hb (Nat.le_refl _) []) (by simp), h.box.below hb h.box.lt, h.blo, h.len, h.inv, h.ok⟩
/-- a plain call of the code's -/
theorem AllSm.plain (h : AllSm W bsem bk bw bx pl d g dd gg os xs bs vp vu w) (hs : SemM w1 bsem bk bw pl d' g') (hP : Part [bw] w w1) : AllSm W bsem bk bw bx pl d' g' dd gg os xs bs vp vu w1 :=
  ⟨h.crowd.whole (v := .bool true) (e := .returned (.bool true)) ⟨rfl, hs, hP⟩, own_part h.un hP (fun r hr => by simpa using own_off h.un h.crowd.sem.words.row (by decide) r hr), h.box.part hP (by simpa using h.box.ne h.crowd.sem.words.row (by decide)), h.blo, h.len, h.inv, h.ok⟩
/-- the book is stored -/
theorem AllSm.book (h : AllSm W bsem bk bw bx pl d g dd gg os xs bs vp vu w) (a b : Int) : AllSm W bsem bk bw bx pl d g a b os xs bs vp vu (((w.setCell ⟨bx, 0, none⟩ (.int .u64 pl)).setCell ⟨bx, 1, none⟩ (.int .u64 a)).setCell ⟨bx, 2, none⟩ (.int .u64 b)) := by
  have hP : Part [bx] w (((w.setCell ⟨bx, 0, none⟩ (.int .u64 pl)).setCell ⟨bx, 1, none⟩ (.int .u64 a)).setCell ⟨bx, 2, none⟩ (.int .u64 b)) := (((Part.refl [bx] w).set (by simp) _).set (by simp) _).set (by simp) _
  exact ⟨h.crowd.far h.box (by decide) h.blo hP, own_part h.un hP (fun r hr => by simpa using own_off h.un h.box (by decide) r hr), Row.of_eq (Row.set (Row.set (Row.set h.box 0 _) 1 _) 2 _) rfl, h.blo, h.len, h.inv, h.ok⟩
/-- a record is stored -/
theorem AllSm.record {q gu cu : Nat} {x y : DocSP} (h : AllSm W bsem bk bw bx pl d g dd gg os xs bs vp (.slice (some ⟨gu, 0, none⟩) bs.length cu) w) (hy : xs[q]? = some y) (hi : InvS x.1 x.2) (ho : OkS x.1) : AllSm W bsem bk bw bx pl d g dd gg os (xs.set q x) bs vp (.slice (some ⟨gu, 0, none⟩) bs.length cu) (undSetS w gu (q * 7) x) := by
  have hP := undSetS_part w gu (q * 7) x
  obtain ⟨l, hr, _⟩ := own_row h.un
  have hlo := own_from h.un gu rfl
  refine ⟨h.crowd.far hr (by decide) hlo hP, unS_stored h.un hy, h.box.part hP (by simpa using h.box.ne hr (by decide)), h.blo, by rw [List.length_set]; exact h.len, fun z hz => ?_, fun z hz => ?_⟩
  · rcases List.mem_or_eq_of_mem_set hz with hz | rfl
    · exact h.inv z hz
    · exact hi
  · rcases List.mem_or_eq_of_mem_set hz with hz | rfl
    · exact h.ok z hz
    · exact ho
/-- the code steps -/
theorem AllSm.step {q b : Nat} {o' : OpS} {did : Array Value} {la : Bool} {e : Ending} (h : AllSm W bsem bk bw bx pl d g dd gg os xs bs vp vu w) (hb : bs[q]? = some b) (hs : StepTo w b bsem bk bw pl d' g' did la (NextS b o') e w1) : AllSm W bsem bk bw bx pl d' g' dd gg (os.set q o') xs bs vp vu w1 := by
  have hc := h.crowd.step hb hs
  obtain ⟨l, hl⟩ := h.crowd.pends.at_ (List.mem_of_getElem? hb)
  obtain ⟨_, nx, an, wy, hr, hn, hsem, hP⟩ := hs
  exact ⟨hc, own_part h.un hP (fun r hr => by simp; exact ⟨own_off h.un hl (by decide) r hr, own_off h.un h.crowd.sem.words.row (by decide) r hr⟩), h.box.part hP (by simp; exact ⟨h.box.ne hl (by decide), h.box.ne h.crowd.sem.words.row (by decide)⟩), h.blo, h.len, h.inv, h.ok⟩
end
end Go.Proofs.Ytamigipljgijlaa
