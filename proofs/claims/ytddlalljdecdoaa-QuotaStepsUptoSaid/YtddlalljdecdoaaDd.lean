/- THE DOCUMENT's RECORDS OF quota's OPERATIONS, IN A LIST. -/
import Derived.Test.YtddlalljdecdoaaDc
import Derived.Test.YtddlalljdecdoaaBm
namespace Go.Proofs.Ytddlalljdecdoaa
open Go Go.RowKit

abbrev DocP := OpB × DocU
def undP (x : DocP) : List Value := undU x.1 x.2
/-- the document's records of operations -/
def unCells (xs : List DocP) : List Value := xs.flatMap undP
theorem du_length (x : DocP) : (undP x).length = 8 := rfl
theorem unCells_snoc (xs : List DocP) (x : DocP) : unCells xs ++ undP x = unCells (xs ++ [x]) := by simp [unCells]
theorem unCells_get {xs : List DocP} : ∀ {q : Nat} {x : DocP}, xs[q]? = some x → ∀ j, j < 8 → (unCells xs)[q * 8 + j]? = (undP x)[j]? := by
  induction xs with
  | nil => intro q x h; simp at h
  | cons a xs ih =>
    intro q x h j hj
    have e : unCells (a :: xs) = undP a ++ unCells xs := rfl
    rw [e]
    cases q with
    | zero => simp at h; subst h; rw [List.getElem?_append_left (by rw [du_length]; omega)]; simp
    | succ q =>
      simp at h
      rw [List.getElem?_append_right (by rw [du_length]; omega), du_length]
      have e1 : (q + 1) * 8 + j - 8 = q * 8 + j := by omega
      rw [e1]
      exact ih h j hj
theorem un_app_set {a l : List Value} {m : Nat} {v : Value} (ha : a.length = 8) : (a ++ l).set (m + 8) v = a ++ l.set m v := by
  rw [List.set_append, if_neg (by omega)]
  congr 2
  omega
theorem unCells_set {xs : List DocP} {x : DocP} : ∀ {q : Nat} {y : DocP}, xs[q]? = some y →
    ((((((((unCells xs).set (q * 8) (.int .u8 x.1.k)).set (q * 8 + 1) (.int .i64 (x.1.wk : Int))).set (q * 8 + 2) (.int .i64 x.2.at_)).set (q * 8 + 3) (.int .u64 x.2.saw)).set (q * 8 + 4) (.int .u64 x.2.hand)).set (q * 8 + 5) (.int .u64 x.2.sum)).set (q * 8 + 6) (.bool x.2.ended)).set (q * 8 + 7) (.int .i64 x.2.ans) = unCells (xs.set q x) := by
  induction xs with
  | nil => intro q y h; simp at h
  | cons a xs ih =>
    intro q y h
    have e : unCells (a :: xs) = undP a ++ unCells xs := rfl
    rw [e]
    cases q with
    | zero => rfl
    | succ q =>
      simp at h
      have e0 : (q + 1) * 8 = q * 8 + 8 := by omega
      have e1 : (q + 1) * 8 + 1 = q * 8 + 1 + 8 := by omega
      have e2 : (q + 1) * 8 + 2 = q * 8 + 2 + 8 := by omega
      have e3 : (q + 1) * 8 + 3 = q * 8 + 3 + 8 := by omega
      have e4 : (q + 1) * 8 + 4 = q * 8 + 4 + 8 := by omega
      have e5 : (q + 1) * 8 + 5 = q * 8 + 5 + 8 := by omega
      have e6 : (q + 1) * 8 + 6 = q * 8 + 6 + 8 := by omega
      have e7 : (q + 1) * 8 + 7 = q * 8 + 7 + 8 := by omega
      rw [e7, e6, e5, e4, e3, e2, e1, e0, un_app_set (du_length a), un_app_set (du_length a), un_app_set (du_length a), un_app_set (du_length a), un_app_set (du_length a), un_app_set (du_length a), un_app_set (du_length a), un_app_set (du_length a)]
      rw [ih h]
      rfl
theorem du_one (x : DocP) : ∀ u ∈ undP x, u.oneCell' = true := by
  intro u hu
  simp [undP, undU, undB] at hu
  rcases hu with rfl | rfl | rfl | rfl | rfl | rfl | rfl | rfl <;> rfl
theorem infoUN : (Try.prog.info? 41).map (fun i => (i.zero, i.size, i.bytes)) = some (some (.agg #[.int .u8 0, .int .i64 0, .int .i64 0, .int .u64 0, .int .u64 0, .int .u64 0, .bool false, .int .i64 0]), 8, 64) := by kernel_rfl
/-- eight stores -/
def undSet (w : World) (g i : Nat) (x : DocP) : World := ((((((((w).setCell ⟨g, i, none⟩ (.int .u8 x.1.k)).setCell ⟨g, i + 1, none⟩ (.int .i64 (x.1.wk : Int))).setCell ⟨g, i + 2, none⟩ (.int .i64 x.2.at_)).setCell ⟨g, i + 3, none⟩ (.int .u64 x.2.saw)).setCell ⟨g, i + 4, none⟩ (.int .u64 x.2.hand)).setCell ⟨g, i + 5, none⟩ (.int .u64 x.2.sum)).setCell ⟨g, i + 6, none⟩ (.bool x.2.ended)).setCell ⟨g, i + 7, none⟩ (.int .i64 x.2.ans)
theorem undSet_part (w : World) (g i : Nat) (x : DocP) : Part [g] w (undSet w g i x) := by
  unfold undSet
  repeat (first | (with_reducible exact Part.refl _ _) | refine Part.set ?_ (by simp) _)
section
variable {w : World} {base g n c q : Nat} {xs : List DocP} {x y : DocP}
theorem un_cells (h : w.ownsRow base 41 8 (.slice (some ⟨g, 0, none⟩) n c) n (unCells xs)) (hp : xs[q]? = some x) :
    w.cell? ⟨g, q * 8, none⟩ = some (.int .u8 x.1.k) ∧ w.cell? ⟨g, q * 8 + 1, none⟩ = some (.int .i64 (x.1.wk : Int)) ∧ w.cell? ⟨g, q * 8 + 2, none⟩ = some (.int .i64 x.2.at_) ∧ w.cell? ⟨g, q * 8 + 3, none⟩ = some (.int .u64 x.2.saw) ∧ w.cell? ⟨g, q * 8 + 4, none⟩ = some (.int .u64 x.2.hand) ∧ w.cell? ⟨g, q * 8 + 5, none⟩ = some (.int .u64 x.2.sum) ∧ w.cell? ⟨g, q * 8 + 6, none⟩ = some (.bool x.2.ended) ∧ w.cell? ⟨g, q * 8 + 7, none⟩ = some (.int .i64 x.2.ans) :=
  ⟨by simpa using own_cell h ((unCells_get hp 0 (by omega)).trans rfl), own_cell h ((unCells_get hp 1 (by omega)).trans rfl), own_cell h ((unCells_get hp 2 (by omega)).trans rfl), own_cell h ((unCells_get hp 3 (by omega)).trans rfl), own_cell h ((unCells_get hp 4 (by omega)).trans rfl), own_cell h ((unCells_get hp 5 (by omega)).trans rfl), own_cell h ((unCells_get hp 6 (by omega)).trans rfl), own_cell h ((unCells_get hp 7 (by omega)).trans rfl)⟩
theorem un_stored (h : w.ownsRow base 41 8 (.slice (some ⟨g, 0, none⟩) n c) n (unCells xs)) (hp : xs[q]? = some y) :
    (undSet w g (q * 8) x).ownsRow base 41 8 (.slice (some ⟨g, 0, none⟩) n c) n (unCells (xs.set q x)) := by
  have h0 := (h.stored (q * 8) (.int .u8 x.1.k)).1
  have h1 := (h0.stored (q * 8 + 1) (.int .i64 (x.1.wk : Int))).1
  have h2 := (h1.stored (q * 8 + 2) (.int .i64 x.2.at_)).1
  have h3 := (h2.stored (q * 8 + 3) (.int .u64 x.2.saw)).1
  have h4 := (h3.stored (q * 8 + 4) (.int .u64 x.2.hand)).1
  have h5 := (h4.stored (q * 8 + 5) (.int .u64 x.2.sum)).1
  have h6 := (h5.stored (q * 8 + 6) (.bool x.2.ended)).1
  have h7 := (h6.stored (q * 8 + 7) (.int .i64 x.2.ans)).1
  rw [unCells_set hp] at h7
  exact h7
end
end Go.Proofs.Ytddlalljdecdoaa
