/- THE WALKS of the document's semaphore: load, and the steps by kind. -/
import Derived.Test.YtamigipljgijlaaNh
import Derived.Outline
import Derived.Deep.Cut
import Derived.Deep.CutRange
import Derived.Deep.RegionHeld3
import Derived.Lib.MinMax
namespace Go.Proofs.Ytamigipljgijlaa
open Go Go.RowKit
set_option maxRecDepth 100000
theorem rload_any (c x : Int) (w : World) : Calls Try.prog 31 #[.int .i64 c, .int .u64 x] w fun e w' => e = .returned (.agg #[.int .u8 1, .int .i64 c, .int .u64 x, .int .u64 x, .bool true]) ∧ Below w.heap.size w w' := by
  go_enter Try.func31, Try.ntmps31
  go_wp2
  refine bodyPost_ret (v := .agg #[.int .u8 1, .int .i64 c, .int .u64 x, .int .u64 x, .bool true]) (by simp [results, Try.results31, go_sem]) rfl ⟨rfl, ?_⟩
  repeat (first | exact Below.refl _ _ | refine Below.alloc ?_ (by simp; try omega) _ | refine Below.setCell ?_ (by simp) _)
theorem Row.seven {w : World} {b : Nat} {t : TypeId} {x0 x1 x2 x3 x4 x5 x6 : Value} (h : Row w b t [x0, x1, x2, x3, x4, x5, x6]) : w.cell? ⟨b, 0, none⟩ = some x0 ∧ w.cell? ⟨b, 1, none⟩ = some x1 ∧ w.cell? ⟨b, 2, none⟩ = some x2 ∧ w.cell? ⟨b, 3, none⟩ = some x3 ∧ w.cell? ⟨b, 4, none⟩ = some x4 ∧ w.cell? ⟨b, 5, none⟩ = some x5 ∧ w.cell? ⟨b, 6, none⟩ = some x6 := ⟨h.cell 0, h.cell 1, h.cell 2, h.cell 3, h.cell 4, h.cell 5, h.cell 6⟩
theorem Row.three3 {w : World} {b : Nat} {t : TypeId} {x0 x1 x2 : Value} (h : Row w b t [x0, x1, x2]) : w.cell? ⟨b, 0, none⟩ = some x0 ∧ w.cell? ⟨b, 1, none⟩ = some x1 ∧ w.cell? ⟨b, 2, none⟩ = some x2 := ⟨h.cell 0, h.cell 1, h.cell 2⟩
theorem Row.five6 {w : World} {b : Nat} {t : TypeId} {x0 x1 x2 x3 x4 : Value} (h : Row w b t [x0, x1, x2, x3, x4]) :
    w.cell? ⟨b, 0, none⟩ = some x0 ∧ w.cell? ⟨b, 1, none⟩ = some x1 ∧ w.cell? ⟨b, 2, none⟩ = some x2 ∧ w.cell? ⟨b, 3, none⟩ = some x3 ∧ w.cell? ⟨b, 4, none⟩ = some x4 := ⟨h.cell 0, h.cell 1, h.cell 2, h.cell 3, h.cell 4⟩
/-- a step's boxes: the semaphore, the operation, the results' places -/
structure StpS (w : World) (b0 b1 b2 b3 b4 : Nat) (r u : List Value) (wx : World) : Prop where
  r : Row wx b0 31 r
  u : Row wx b1 40 u
  rr : Row wx b2 31 [.int .u64 0, .int .u64 0, .int .u64 0]
  ru : Row wx b3 40 [.int .u8 0, .int .i64 0, .int .u64 0, .int .u64 0, .bool false, .int .u64 0, .int .i64 0]
  rd : Row wx b4 45 [.int .u8 0, .int .i64 0, .int .u64 0, .int .u64 0, .bool false]
  gt : w.heap.size ≤ b0 ∧ b0 < b1 ∧ b1 < b2 ∧ b2 < b3 ∧ b3 < b4
  low : Below w.heap.size w wx
section
variable {w wx wy : World} {b0 b1 b2 b3 b4 : Nat} {r u : List Value}
theorem stpS_begin (w : World) (r u : List Value) : StpS w w.heap.size (w.heap.size + 1) (w.heap.size + 1 + 1) (w.heap.size + 1 + 1 + 1) (w.heap.size + 1 + 1 + 1 + 1) r u
    (((((w.alloc (.cells r.toArray 31)).alloc (.cells u.toArray 40)).alloc (.cells #[.int .u64 0, .int .u64 0, .int .u64 0] 31)).alloc (.cells #[.int .u8 0, .int .i64 0, .int .u64 0, .int .u64 0, .bool false, .int .u64 0, .int .i64 0] 40)).alloc (.cells #[.int .u8 0, .int .i64 0, .int .u64 0, .int .u64 0, .bool false] 45)) := by
  have h1 := Row.new (w.alloc (.cells r.toArray 31)) 40 u
  have h2 := Row.new ((w.alloc (.cells r.toArray 31)).alloc (.cells u.toArray 40)) 31 [.int .u64 0, .int .u64 0, .int .u64 0]
  have h3 := Row.new (((w.alloc (.cells r.toArray 31)).alloc (.cells u.toArray 40)).alloc (.cells #[.int .u64 0, .int .u64 0, .int .u64 0] 31)) 40 [.int .u8 0, .int .i64 0, .int .u64 0, .int .u64 0, .bool false, .int .u64 0, .int .i64 0]
  have h4 := Row.new ((((w.alloc (.cells r.toArray 31)).alloc (.cells u.toArray 40)).alloc (.cells #[.int .u64 0, .int .u64 0, .int .u64 0] 31)).alloc (.cells #[.int .u8 0, .int .i64 0, .int .u64 0, .int .u64 0, .bool false, .int .u64 0, .int .i64 0] 40)) 45 [.int .u8 0, .int .i64 0, .int .u64 0, .int .u64 0, .bool false]
  simp only [World.size_alloc] at h1 h2 h3 h4
  exact ⟨((((Row.new w _ r).alloc _).alloc _).alloc _).alloc _, ((h1.alloc _).alloc _).alloc _, (h2.alloc _).alloc _, h3.alloc _, h4, ⟨Nat.le_refl _, by omega, by omega, by omega, by omega⟩, (((((Below.refl _ _).alloc (Nat.le_refl _) _).alloc (by simp) _).alloc (by simp; omega) _).alloc (by simp; omega) _).alloc (by simp; omega) _⟩
theorem StpS.on (h : StpS w b0 b1 b2 b3 b4 r u wx) (hb : Below wx.heap.size wx wy) : StpS w b0 b1 b2 b3 b4 r u wy :=
  ⟨h.r.below hb h.r.lt, h.u.below hb h.u.lt, h.rr.below hb h.rr.lt, h.ru.below hb h.ru.lt, h.rd.below hb h.rd.lt, h.gt, h.low.trans (hb.mono h.low.size)⟩
theorem StpS.drew (h : StpS w b0 b1 b2 b3 b4 r u wx) : StpS w b0 b1 b2 b3 b4 r u wx.drew := h.on (Below.draws (Below.refl _ _) 1)
theorem StpS.setU (h : StpS w b0 b1 b2 b3 b4 r u wx) (k : Nat) (v : Value) : StpS w b0 b1 b2 b3 b4 r (u.set k v) (wx.setCell ⟨b1, k, none⟩ v) := by
  have hg := h.gt
  exact ⟨h.r.far (p := ⟨b1, k, none⟩) (by show b1 ≠ b0; omega) _, h.u.set _ _, h.rr.far (p := ⟨b1, k, none⟩) (by show b1 ≠ b2; omega) _, h.ru.far (p := ⟨b1, k, none⟩) (by show b1 ≠ b3; omega) _, h.rd.far (p := ⟨b1, k, none⟩) (by show b1 ≠ b4; omega) _, h.gt, h.low.setCell (by simp; omega) _⟩
theorem StpS.setR (h : StpS w b0 b1 b2 b3 b4 r u wx) (k : Nat) (v : Value) : StpS w b0 b1 b2 b3 b4 (r.set k v) u (wx.setCell ⟨b0, k, none⟩ v) := by
  have hg := h.gt
  exact ⟨h.r.set _ _, h.u.far (p := ⟨b0, k, none⟩) (by show b0 ≠ b1; omega) _, h.rr.far (p := ⟨b0, k, none⟩) (by show b0 ≠ b2; omega) _, h.ru.far (p := ⟨b0, k, none⟩) (by show b0 ≠ b3; omega) _, h.rd.far (p := ⟨b0, k, none⟩) (by show b0 ≠ b4; omega) _, h.gt, h.low.setCell (by simp; omega) _⟩
end
theorem Row.of_ex {w : World} {b : Nat} {t : TypeId} {l : List Value} (h : ∃ l', Row w b t l' ∧ l' = l) : Row w b t l := by obtain ⟨l', h, rfl⟩ := h; exact h
set_option maxHeartbeats 6400000
theorem renter0 {pl d g k fi la su wy : Int} (w : World) :
    Calls Try.prog 28 #[.agg #[.int .u64 pl, .int .u64 d, .int .u64 g], .agg #[.int .u8 k, .int .i64 0, .int .u64 fi, .int .u64 la, .bool false, .int .u64 su, .int .i64 wy]] w fun e w' => e = .returned (.tuple #[.agg #[.int .u64 pl, .int .u64 (up d), .int .u64 g], .agg #[.int .u8 k, .int .i64 1, .int .u64 fi, .int .u64 la, .bool false, .int .u64 d, .int .i64 wy], .agg #[.int .u8 3, .int .i64 0, .int .u64 d, .int .u64 (up d), .bool true]]) ∧ Below w.heap.size w w' := by
  have HB := Lib.hid (stpS_begin w [.int .u64 pl, .int .u64 d, .int .u64 g] [.int .u8 k, .int .i64 0, .int .u64 fi, .int .u64 la, .bool false, .int .u64 su, .int .i64 wy])
  go_enter Try.func28, Try.ntmps28
  go_upto_region 1 with fail
  go_cut [10] (fun s10 wx => s10 = .bool true ∧ ∃ b0 b1 b2 b3 b4, b0 = w.heap.size ∧ b1 = w.heap.size + 1 ∧ b2 = w.heap.size + 1 + 1 ∧ b3 = w.heap.size + 1 + 1 + 1 ∧ b4 = w.heap.size + 1 + 1 + 1 + 1 ∧ StpS w b0 b1 b2 b3 b4 [.int .u64 pl, .int .u64 d, .int .u64 g] [.int .u8 k, .int .i64 0, .int .u64 fi, .int .u64 la, .bool false, .int .u64 su, .int .i64 wy] wx)
  case first =>
    go_wp2
    go_meet
    exact ⟨rfl, _, _, _, _, _, rfl, rfl, rfl, rfl, rfl, HB.out⟩
  case rest =>
    obtain ⟨rfl, b0, b1, b2, b3, b4, hb0, hb1, hb2, hb3, hb4, hP⟩ := hcut
    rw [← hb4, ← hb3, ← hb2, ← hb1, ← hb0]
    have HR := Lib.hid hP
    obtain ⟨gt0, gt1, gt2, gt3, gt4⟩ := hP.gt
    have x0 := hP.r.lt
    have x1 := hP.u.lt
    have x2 := hP.rr.lt
    have x3 := hP.ru.lt
    have x4 := hP.rd.lt
    have y01 : ¬ b0 = b1 := by omega
    have y02 : ¬ b0 = b2 := by omega
    have y03 : ¬ b0 = b3 := by omega
    have y04 : ¬ b0 = b4 := by omega
    have y10 : ¬ b1 = b0 := by omega
    have y12 : ¬ b1 = b2 := by omega
    have y13 : ¬ b1 = b3 := by omega
    have y14 : ¬ b1 = b4 := by omega
    have y20 : ¬ b2 = b0 := by omega
    have y21 : ¬ b2 = b1 := by omega
    have y23 : ¬ b2 = b3 := by omega
    have y24 : ¬ b2 = b4 := by omega
    have y30 : ¬ b3 = b0 := by omega
    have y31 : ¬ b3 = b1 := by omega
    have y32 : ¬ b3 = b2 := by omega
    have y34 : ¬ b3 = b4 := by omega
    have y40 : ¬ b4 = b0 := by omega
    have y41 : ¬ b4 = b1 := by omega
    have y42 : ¬ b4 = b2 := by omega
    have y43 : ¬ b4 = b3 := by omega
    obtain ⟨w0, w1, w2⟩ := hP.r.three3
    obtain ⟨v0, v1, v2, v3, v4, v5, v6⟩ := hP.u.seven
    obtain ⟨r0, r1, r2⟩ := hP.rr.three3
    obtain ⟨q0, q1, q2, q3, q4, q5, q6⟩ := hP.ru.seven
    obtain ⟨z0, z1, z2, z3, z4⟩ := hP.rd.five6
    have wf := hP.r.free
    have uf := hP.u.free
    have rf := hP.rr.free
    have qf := hP.ru.free
    have zf := hP.rd.free
    clear hP hb0 hb1 hb2 hb3 hb4
    go_upto_region 6 with fail
    go_cut [] (fun wx => Row wx b2 31 [.int .u64 pl, .int .u64 (up d), .int .u64 g] ∧ Row wx b3 40 [.int .u8 k, .int .i64 1, .int .u64 fi, .int .u64 la, .bool false, .int .u64 d, .int .i64 wy] ∧ Row wx b4 45 [.int .u8 3, .int .i64 0, .int .u64 d, .int .u64 (up d), .bool true] ∧ Below w.heap.size w wx)
    case first =>

      go_region
      all_goals
        go_wp2_with fail
        go_meet
        refine ⟨?_, ?_, ?_, ?_⟩
        · exact Row.of_eq (Row.drew (Row.alloc (Row.far (Row.far (Row.far (Row.far (Row.far (Row.far (Row.far (Row.far (Row.far (Row.far (Row.far (Row.far (Row.set (Row.set (Row.set (Row.far (Row.far (Row.far HR.out.rr (p := ⟨b1, 1, none⟩) y12 _) (p := ⟨b1, 5, none⟩) y12 _) (p := ⟨b0, 1, none⟩) y02 _) 0 _) 1 _) 2 _) (p := ⟨b3, 0, none⟩) y32 _) (p := ⟨b3, 1, none⟩) y32 _) (p := ⟨b3, 2, none⟩) y32 _) (p := ⟨b3, 3, none⟩) y32 _) (p := ⟨b3, 4, none⟩) y32 _) (p := ⟨b3, 5, none⟩) y32 _) (p := ⟨b3, 6, none⟩) y32 _) (p := ⟨b4, 0, none⟩) y42 _) (p := ⟨b4, 1, none⟩) y42 _) (p := ⟨b4, 2, none⟩) y42 _) (p := ⟨b4, 3, none⟩) y42 _) (p := ⟨b4, 4, none⟩) y42 _) _)) rfl
        · exact Row.of_eq (Row.drew (Row.alloc (Row.far (Row.far (Row.far (Row.far (Row.far (Row.set (Row.set (Row.set (Row.set (Row.set (Row.set (Row.set (Row.far (Row.far (Row.far (Row.far (Row.far (Row.far HR.out.ru (p := ⟨b1, 1, none⟩) y13 _) (p := ⟨b1, 5, none⟩) y13 _) (p := ⟨b0, 1, none⟩) y03 _) (p := ⟨b2, 0, none⟩) y23 _) (p := ⟨b2, 1, none⟩) y23 _) (p := ⟨b2, 2, none⟩) y23 _) 0 _) 1 _) 2 _) 3 _) 4 _) 5 _) 6 _) (p := ⟨b4, 0, none⟩) y43 _) (p := ⟨b4, 1, none⟩) y43 _) (p := ⟨b4, 2, none⟩) y43 _) (p := ⟨b4, 3, none⟩) y43 _) (p := ⟨b4, 4, none⟩) y43 _) _)) rfl
        · exact Row.of_eq (Row.drew (Row.alloc (Row.set (Row.set (Row.set (Row.set (Row.set (Row.far (Row.far (Row.far (Row.far (Row.far (Row.far (Row.far (Row.far (Row.far (Row.far (Row.far (Row.far (Row.far HR.out.rd (p := ⟨b1, 1, none⟩) y14 _) (p := ⟨b1, 5, none⟩) y14 _) (p := ⟨b0, 1, none⟩) y04 _) (p := ⟨b2, 0, none⟩) y24 _) (p := ⟨b2, 1, none⟩) y24 _) (p := ⟨b2, 2, none⟩) y24 _) (p := ⟨b3, 0, none⟩) y34 _) (p := ⟨b3, 1, none⟩) y34 _) (p := ⟨b3, 2, none⟩) y34 _) (p := ⟨b3, 3, none⟩) y34 _) (p := ⟨b3, 4, none⟩) y34 _) (p := ⟨b3, 5, none⟩) y34 _) (p := ⟨b3, 6, none⟩) y34 _) 0 _) 1 _) 2 _) 3 _) 4 _) _)) rfl
        · repeat (first | (with_reducible exact HR.out.low) | (with_reducible refine Below.drew ?_) | (with_reducible refine Below.draws ?_ _) | (with_reducible refine Below.alloc ?_ (by (try simp); omega) _) | (with_reducible refine Below.setCell ?_ (by (try simp); omega) _))
    case rest =>
      obtain ⟨h2, h3, h4, hb⟩ := hcut
      clear r0 r1 r2 q0 q1 q2 q3 q4 q5 q6 z0 z1 z2 z3 z4
      obtain ⟨r0, r1, r2⟩ := h2.three3
      obtain ⟨q0, q1, q2, q3, q4, q5, q6⟩ := h3.seven
      obtain ⟨z0, z1, z2, z3, z4⟩ := h4.five6
      go_wp2
      refine bodyPost_ret (v := .tuple #[.agg #[.int .u64 pl, .int .u64 (up d), .int .u64 g], .agg #[.int .u8 k, .int .i64 1, .int .u64 fi, .int .u64 la, .bool false, .int .u64 d, .int .i64 wy], .agg #[.int .u8 3, .int .i64 0, .int .u64 d, .int .u64 (up d), .bool true]]) (by simp [results, Try.results28, go_sem, r0, r1, r2, q0, q1, q2, q3, q4, q5, q6, z0, z1, z2, z3, z4]) rfl ⟨rfl, hb⟩
end Go.Proofs.Ytamigipljgijlaa
