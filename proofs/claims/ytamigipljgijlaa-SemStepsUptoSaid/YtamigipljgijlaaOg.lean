/- THE WALK of the law 'SemSteps': what it wants; the region in which the document steps, with three boxes that may be made ahead of it or behind it. -/
import Derived.Test.YtamigipljgijlaaOf
import Derived.Test.YtamigipljgijlaaNy
import Derived.Deep.AppendLies
import Derived.Laws.StructEq
namespace Go.Proofs.Ytamigipljgijlaa
open Go Go.RowKit

/-- a box, none of the operations' -/
structure BoxY (W : World) (b : Nat) (t : TypeId) (l : List Value) (w : World) : Prop where
  row : Row w b t l
  lo : W.heap.size ≤ b
section
variable {W w1 w2 : World} {b : Nat} {t : TypeId} {l : List Value}
theorem BoxY.on (h : BoxY W b t l w1) (hb : Below w1.heap.size w1 w2) : BoxY W b t l w2 := ⟨h.row.below hb h.row.lt, h.lo⟩
theorem BoxY.part {S : List Nat} (h : BoxY W b t l w1) (hP : Part S w1 w2) (hS : b ∉ S) : BoxY W b t l w2 := ⟨h.row.part hP hS, h.lo⟩
theorem BoxY.new (hl : W.heap.size ≤ w1.heap.size) (l : List Value) : BoxY W w1.heap.size t l (w1.alloc (.cells l.toArray t)) := ⟨Row.new w1 t l, hl⟩
end
def semSet (w : World) (b : Nat) (v0 v1 v2 : Value) : World := ((w.setCell ⟨b, 0, none⟩ v0).setCell ⟨b, 1, none⟩ v1).setCell ⟨b, 2, none⟩ v2
def dnSetS (w : World) (b : Nat) (k : Int) (x : DocS) : World := (((((((w).setCell ⟨b, 0, none⟩ (.int .u8 k)).setCell ⟨b, 1, none⟩ (.int .i64 x.at_)).setCell ⟨b, 2, none⟩ (.int .u64 x.fi)).setCell ⟨b, 3, none⟩ (.int .u64 x.la)).setCell ⟨b, 4, none⟩ (.bool x.en)).setCell ⟨b, 5, none⟩ (.int .u64 x.su)).setCell ⟨b, 6, none⟩ (.int .i64 x.wy)
def didSetS (w : World) (b : Nat) (d0 d1 d2 d3 : Int) (d4 : Bool) : World := (((((w).setCell ⟨b, 0, none⟩ (.int .u8 d0)).setCell ⟨b, 1, none⟩ (.int .i64 d1)).setCell ⟨b, 2, none⟩ (.int .u64 d2)).setCell ⟨b, 3, none⟩ (.int .u64 d3)).setCell ⟨b, 4, none⟩ (.bool d4)
theorem semSet_part (w : World) (b : Nat) (v0 v1 v2 : Value) : Part [b] w (semSet w b v0 v1 v2) := (((Part.refl [b] w).set (by simp) _).set (by simp) _).set (by simp) _
theorem dnSetS_part (w : World) (b : Nat) (k : Int) (x : DocS) : Part [b] w (dnSetS w b k x) := by
  unfold dnSetS
  repeat (first | (with_reducible exact Part.refl _ _) | refine Part.set ?_ (by simp) _)
theorem didSetS_part (w : World) (b : Nat) (d0 d1 d2 d3 : Int) (d4 : Bool) : Part [b] w (didSetS w b d0 d1 d2 d3 d4) := by
  unfold didSetS
  repeat (first | (with_reducible exact Part.refl _ _) | refine Part.set ?_ (by simp) _)
theorem semSet_below {w w' : World} {lo b : Nat} (h : Below lo w w') (hb : lo ≤ b) (v0 v1 v2 : Value) : Below lo w (semSet w' b v0 v1 v2) := (((h).setCell hb _).setCell hb _).setCell hb _
theorem dnSetS_below {w w' : World} {lo b : Nat} (h : Below lo w w') (hb : lo ≤ b) (k : Int) (x : DocS) : Below lo w (dnSetS w' b k x) := (((((((h).setCell hb _).setCell hb _).setCell hb _).setCell hb _).setCell hb _).setCell hb _).setCell hb _
theorem didSetS_below {w w' : World} {lo b : Nat} (h : Below lo w w') (hb : lo ≤ b) (d0 d1 d2 d3 : Int) (d4 : Bool) : Below lo w (didSetS w' b d0 d1 d2 d3 d4) := (((((h).setCell hb _).setCell hb _).setCell hb _).setCell hb _).setCell hb _
theorem below_more {w w' : World} (h : Below w.heap.size w w') (o : Obj) : Below w.heap.size w (w'.alloc o) := h.alloc h.size o
theorem row_new (w : World) (b : Nat) (hb : w.heap.size = b) (t : TypeId) (l : List Value) : Row (w.alloc (.cells l.toArray t)) b t l := hb ▸ Row.new w t l
theorem semSet_row {w : World} {b : Nat} {t : TypeId} {u0 u1 u2 : Value} (h : Row w b t [u0, u1, u2]) (v0 v1 v2 : Value) : Row (semSet w b v0 v1 v2) b t [v0, v1, v2] := ((((((h).set 0 _)).set 1 _)).set 2 _)
theorem dnSetS_row {w : World} {b : Nat} {t : TypeId} {u0 u1 u2 u3 u4 u5 u6 : Value} (h : Row w b t [u0, u1, u2, u3, u4, u5, u6]) (k : Int) (x : DocS) : Row (dnSetS w b k x) b t [.int .u8 k, .int .i64 x.at_, .int .u64 x.fi, .int .u64 x.la, .bool x.en, .int .u64 x.su, .int .i64 x.wy] := ((((((((((((((h).set 0 _)).set 1 _)).set 2 _)).set 3 _)).set 4 _)).set 5 _)).set 6 _)
theorem didSetS_row {w : World} {b : Nat} {t : TypeId} {u0 u1 u2 u3 u4 : Value} (h : Row w b t [u0, u1, u2, u3, u4]) (d0 d1 d2 d3 : Int) (d4 : Bool) : Row (didSetS w b d0 d1 d2 d3 d4) b t [.int .u8 d0, .int .i64 d1, .int .u64 d2, .int .u64 d3, .bool d4] := ((((((((((h).set 0 _)).set 1 _)).set 2 _)).set 3 _)).set 4 _)
theorem row_a11 (w : World) (l : List Value) (t : TypeId) : Row (w.alloc (.cells l.toArray t)).drew w.heap.size t l := Row.new w t l
theorem row_a21 (w : World) (l : List Value) (t : TypeId) (o : Obj) : Row ((w.alloc (.cells l.toArray t)).alloc o).drew w.heap.size t l := (Row.new w t l).alloc _
theorem row_a22 (w : World) (l : List Value) (t : TypeId) (o : Obj) : Row ((w.alloc o).alloc (.cells l.toArray t)).drew (w.heap.size + 1) t l := by have := Row.new (w.alloc o) t l; simp only [World.size_alloc] at this; exact this
theorem row_a31 (w : World) (l : List Value) (t : TypeId) (o o' : Obj) : Row (((w.alloc (.cells l.toArray t)).alloc o).alloc o').drew w.heap.size t l := ((Row.new w t l).alloc _).alloc _
theorem row_a32 (w : World) (l : List Value) (t : TypeId) (o o' : Obj) : Row (((w.alloc o).alloc (.cells l.toArray t)).alloc o').drew (w.heap.size + 1) t l := by have := (Row.new (w.alloc o) t l).alloc o'; simp only [World.size_alloc] at this; exact this
theorem row_a33 (w : World) (l : List Value) (t : TypeId) (o o' : Obj) : Row (((w.alloc o).alloc o').alloc (.cells l.toArray t)).drew (w.heap.size + 1 + 1) t l := by have := Row.new ((w.alloc o).alloc o') t l; simp only [World.size_alloc] at this; exact this
theorem infoPS : (Try.prog.info? 35).map (fun i => (i.zero, i.size, i.bytes)) = some (some (.pointer none), 1, 8) := by kernel_rfl
theorem did_fiveS (d g : Int) (o : OpS) : ∃ d0 d1 d2 d3 d4, didS d g o = #[.int .u8 d0, .int .i64 d1, .int .u64 d2, .int .u64 d3, .bool d4] := by
  unfold didS
  repeat (first | exact ⟨_, _, _, _, _, rfl⟩ | split)
theorem InvS.ended {o : OpS} {u : DocS} (h : InvS o u) : u.en = decide (o.ph = 9) := by
  rcases h with ⟨h, h1, _⟩ | ⟨h, h1, _⟩
  · rw [h1]; simpa using h
  · rw [h1]; simpa using h
theorem stepS_kind (pl d g : Int) (o : OpS) : (stepS pl d g o).k = o.k := by
  unfold stepS
  repeat (first | rfl | split)
theorem right_kinds {k : Int} (h : rightK k = true) : k = 1 ∨ k = 2 ∨ k = 3 ∨ k = 4 := by
  unfold rightK at h
  simp at h
  omega
theorem sstart_no {w : World} {bs : Nat} {k : Int} (h : rightK k = false) : Calls Try.prog 8 #[.pointer (some ⟨bs, 0, none⟩), .int .u8 k] w fun e w' => e = .returned (.tuple #[.pointer none, .int .i64 10]) ∧ Below w.heap.size w w' := by
  have hk : k ≠ 1 ∧ k ≠ 2 ∧ k ≠ 3 ∧ k ≠ 4 := by
    refine ⟨?_, ?_, ?_, ?_⟩ <;> (rintro rfl; cases h)
  obtain ⟨k1, k2, k3, k4⟩ := hk
  have n1 : (k == 1) = false := by simpa using k1
  have n2 : (k == 2) = false := by simpa using k2
  have n3 : (k == 3) = false := by simpa using k3
  have n4 : (k == 4) = false := by simpa using k4
  clear k1 k2 k3 k4 h
  go_enter Try.func8, Try.ntmps8
  go_wp2
  go_ret2
  exact ⟨rfl, (Below.refl _ _).alloc (Nat.le_refl _) _⟩
theorem GrowS.nil {W w : World} {bsem bk bw bx : Nat} {pl : Int} (hs : SemM w bsem bk bw pl 0 0) (hx : Row w bx 31 [.int .u64 pl, .int .u64 0, .int .u64 0]) (h1 : W.heap.size ≤ bx) (h2 : W.heap.size ≤ bw) (hl : Below W.heap.size W w) : GrowS W bsem bk bw bx pl [] [] [] (.slice none 0 0) (.slice none 0 0) w :=
  ⟨hs, hx, h1, h2, hl, World.ownsRow_nil _ _ _ _, World.ownsRow_nil _ _ _ _, NewsS.nil _ _ _ _, fun z hz => by simp [Value.ownBlock] at hz, fun z hz => by simp [Value.ownBlock] at hz, by simp, by simp⟩
section
variable {W w w1 : World} {bsem bk bw bx : Nat} {pl d g dd gg : Int} {xs : List DocSP} {bs : List Nat} {vp : Value}
/-- a record of the kind kk is stored -/
theorem AllSm.recordK {os : List OpS} {q gu cu : Nat} {o2 : OpS} {x2 : DocS} {y : DocSP} {kk : Int} (h : AllSm W bsem bk bw bx pl d g dd gg os xs bs vp (.slice (some ⟨gu, 0, none⟩) bs.length cu) w) (hy : xs[q]? = some y) (hi : InvS o2 x2) (ho : OkS o2) (hk : o2.k = kk) : AllSm W bsem bk bw bx pl d g dd gg os (xs.set q (o2, x2)) bs vp (.slice (some ⟨gu, 0, none⟩) bs.length cu) (undSetS w gu (q * 7) (newS kk, x2)) := by
  have e : undSetS w gu (q * 7) (newS kk, x2) = undSetS w gu (q * 7) (o2, x2) := by simp [undSetS, newS, hk]
  rw [e]
  exact h.record hy hi ho
/-- the operation at a place -/
theorem AllSm.get {vu : Value} {q : Nat} (h : AllSm W bsem bk bw bx pl d g dd gg (xs.map Prod.fst) xs bs vp vu w) (hq : q < bs.length) :
    ∃ x b gp cp gu cu, xs[q]? = some x ∧ bs[q]? = some b ∧ vp = .slice (some ⟨gp, 0, none⟩) bs.length cp ∧ vu = .slice (some ⟨gu, 0, none⟩) bs.length cu ∧ InvS x.1 x.2 ∧ OkS x.1 ∧ gp < w.heap.size ∧ gu < w.heap.size := by
  obtain ⟨gp, cp, e1, _, e2⟩ := own_some h.crowd.ps (by omega)
  obtain ⟨gu, cu, e3, _, e4⟩ := own_some h.un (by omega)
  have hx : xs[q]? = some (xs[q]'(by rw [h.len]; exact hq)) := List.getElem?_eq_getElem _
  exact ⟨_, bs[q], gp, cp, gu, cu, hx, List.getElem?_eq_getElem hq, e1, e3, h.inv _ (List.mem_of_getElem? hx), h.ok _ (List.mem_of_getElem? hx), e2, e4⟩
/-- its address, in the list -/
theorem AllSm.place {os : List OpS} {vu : Value} {q b gp cp : Nat} (h : AllSm W bsem bk bw bx pl d g dd gg os xs bs (.slice (some ⟨gp, 0, none⟩) bs.length cp) vu w) (hb : bs[q]? = some b) : w.cell? ⟨gp, q, none⟩ = some (.pointer (some ⟨b, 0, none⟩)) := own_cell h.crowd.ps (ptrs_get hb)
end
end Go.Proofs.Ytamigipljgijlaa
