/- THE DOCUMENT'S OWN put: a load; a swap that misses. -/
import Derived.Test.YtdadgppbpomdoaaQa
import Derived.Outline
import Derived.Deep.Cut
import Derived.Deep.CutRange
import Derived.Deep.DeepCutAuto
import Derived.Deep.RegionHeld3
namespace Go.Proofs.Ytdadgppbpomdoaa
open Go Go.RowKit

/-- the document's operation under way: thirteen cells -/
def undD (k r v t : Int) (ld : Bool) (saw at_ : Int) (last now : Value) (en : Bool) (regs : Value) (cl : Bool) (co : Int) : List Value :=
  [.int .u8 k, .int .i64 r, .int .u32 v, .int .i64 t, .bool ld, .int .u64 saw, .int .i64 at_, last, now, .bool en, regs, .bool cl, .int .i64 co]
def undO : List Value := undD 0 0 0 0 false 0 0 (.slice none 0 0) (.slice none 0 0) false (.slice none 0 0) false 0
def didO : List Value := [.int .u8 0, .int .i64 0, .int .u64 0, .int .u64 0, .bool false]
theorem Row.thirteen {w : World} {b : Nat} {t : TypeId} {x0 x1 x2 x3 x4 x5 x6 x7 x8 x9 x10 x11 x12 : Value} (h : Row w b t [x0, x1, x2, x3, x4, x5, x6, x7, x8, x9, x10, x11, x12]) :
    w.cell? ⟨b, 0, none⟩ = some x0 ∧ w.cell? ⟨b, 1, none⟩ = some x1 ∧ w.cell? ⟨b, 2, none⟩ = some x2 ∧ w.cell? ⟨b, 3, none⟩ = some x3 ∧ w.cell? ⟨b, 4, none⟩ = some x4 ∧ w.cell? ⟨b, 5, none⟩ = some x5 ∧ w.cell? ⟨b, 6, none⟩ = some x6 ∧ w.cell? ⟨b, 7, none⟩ = some x7 ∧ w.cell? ⟨b, 8, none⟩ = some x8 ∧ w.cell? ⟨b, 9, none⟩ = some x9 ∧ w.cell? ⟨b, 10, none⟩ = some x10 ∧ w.cell? ⟨b, 11, none⟩ = some x11 ∧ w.cell? ⟨b, 12, none⟩ = some x12 :=
  ⟨h.cell 0, h.cell 1, h.cell 2, h.cell 3, h.cell 4, h.cell 5, h.cell 6, h.cell 7, h.cell 8, h.cell 9, h.cell 10, h.cell 11, h.cell 12⟩
theorem Row.five6 {w : World} {b : Nat} {t : TypeId} {x0 x1 x2 x3 x4 : Value} (h : Row w b t [x0, x1, x2, x3, x4]) :
    w.cell? ⟨b, 0, none⟩ = some x0 ∧ w.cell? ⟨b, 1, none⟩ = some x1 ∧ w.cell? ⟨b, 2, none⟩ = some x2 ∧ w.cell? ⟨b, 3, none⟩ = some x3 ∧ w.cell? ⟨b, 4, none⟩ = some x4 :=
  ⟨h.cell 0, h.cell 1, h.cell 2, h.cell 3, h.cell 4⟩
/-- in put and scan: the operation in its box, the results' places, what was done, the cells -/
structure PutR (w : World) (A : Option Addr) (xs : List Int) (b0 b1 b2 b3 : Nat) (u d : List Value) (wx : World) : Prop where
  u : Row wx b0 45 u
  ru : Row wx b1 45 undO
  rd : Row wx b2 48 didO
  d : Row wx b3 48 d
  cells : LiesU wx A xs
  gt : w.heap.size ≤ b0 ∧ b0 < b1 ∧ b1 < b2 ∧ b2 < b3
  low : Below w.heap.size w wx
theorem putR_begin {w : World} {A : Option Addr} {xs : List Int} (h : LiesU w A xs) (u d : List Value) :
    PutR w A xs w.heap.size (w.heap.size + 1) (w.heap.size + 1 + 1) (w.heap.size + 1 + 1 + 1) u d ((((w.alloc (.cells u.toArray 45)).alloc (.cells undO.toArray 45)).alloc (.cells didO.toArray 48)).alloc (.cells d.toArray 48)) := by
  have hb : Below w.heap.size w ((((w.alloc (.cells u.toArray 45)).alloc (.cells undO.toArray 45)).alloc (.cells didO.toArray 48)).alloc (.cells d.toArray 48)) := ((((Below.refl _ _).alloc (Nat.le_refl _) _).alloc (by simp) _).alloc (by simp; omega) _).alloc (by simp; omega) _
  have h1 := Row.new (w.alloc (.cells u.toArray 45)) 45 undO
  have h2 := Row.new ((w.alloc (.cells u.toArray 45)).alloc (.cells undO.toArray 45)) 48 didO
  have h3 := Row.new (((w.alloc (.cells u.toArray 45)).alloc (.cells undO.toArray 45)).alloc (.cells didO.toArray 48)) 48 d
  simp only [World.size_alloc] at h1 h2 h3
  exact ⟨(((Row.new w _ u).alloc _).alloc _).alloc _, (h1.alloc _).alloc _, h2.alloc _, h3, h.below hb, ⟨Nat.le_refl _, by omega, by omega, by omega⟩, hb⟩
theorem PutR.drew {w wx : World} {A : Option Addr} {xs : List Int} {b0 b1 b2 b3 : Nat} {u d : List Value} (h : PutR w A xs b0 b1 b2 b3 u d wx) : PutR w A xs b0 b1 b2 b3 u d wx.drew :=
  ⟨h.u, h.ru, h.rd, h.d, fun j y hy => h.cells j y hy, h.gt, Below.draws h.low 1⟩
theorem put3_cell {w : World} {g i : Nat} {v : Value} (hg : g < w.heap.size) (hc : w.cell? ⟨g, i, none⟩ = some v) (u : List Value) :
    (((w.alloc (.cells u.toArray 45)).alloc (.cells undO.toArray 45)).alloc (.cells didO.toArray 48)).drew.cell? ⟨g, i, none⟩ = some v := by
  have hb : Below w.heap.size w (((w.alloc (.cells u.toArray 45)).alloc (.cells undO.toArray 45)).alloc (.cells didO.toArray 48)) := (((Below.refl _ _).alloc (Nat.le_refl _) _).alloc (by simp) _).alloc (by simp; omega) _
  exact (hb.cell (p := ⟨g, i, none⟩) hg).trans hc
theorem put4_cell {w : World} {g i : Nat} {v : Value} (hg : g < w.heap.size) (hc : w.cell? ⟨g, i, none⟩ = some v) (u : List Value) (o : Obj) :
    ((((w.alloc (.cells u.toArray 45)).alloc (.cells undO.toArray 45)).alloc (.cells didO.toArray 48)).alloc o).drew.cell? ⟨g, i, none⟩ = some v := by
  have hb : Below w.heap.size w ((((w.alloc (.cells u.toArray 45)).alloc (.cells undO.toArray 45)).alloc (.cells didO.toArray 48)).alloc o) := ((((Below.refl _ _).alloc (Nat.le_refl _) _).alloc (by simp) _).alloc (by simp; omega) _).alloc (by simp; omega) _
  exact (hb.cell (p := ⟨g, i, none⟩) hg).trans hc
set_option maxRecDepth 100000
set_option maxHeartbeats 6400000
theorem dput_load {w : World} {A : Option Addr} {n c i : Nat} {xs : List Int} {x v saw : Int} (h : LiesU w A xs) (hn : xs.length = n) (hx : xs[i]? = some x) (_hl : n ≤ 64) :
    Calls Try.prog 33 #[.slice A n c, .agg (undD 1 i v 0 false saw 0 (.slice none 0 0) (.slice none 0 0) false (.slice none 0 0) false 0).toArray] w fun e w' =>
      e = .returned (.tuple #[.slice A n c, .agg (undD 1 i v 0 true x 0 (.slice none 0 0) (.slice none 0 0) false (.slice none 0 0) false 0).toArray, .agg #[.int .u8 1, .int .i64 (i : Int), .int .u64 x, .int .u64 x, .bool true]]) ∧ Below w.heap.size w w' := by
  have hin := lt_of_get hx
  have HP := Lib.hid (putR_begin h (undD 1 i v 0 false saw 0 (.slice none 0 0) (.slice none 0 0) false (.slice none 0 0) false 0) [.int .u8 1, .int .i64 (i : Int), .int .u64 x, .int .u64 x, .bool true])
  have HX := Lib.hid hx
  obtain ⟨g, rfl, hg, hc⟩ := h i x hx
  have hlt : (i : Int) < (n : Int) := by omega
  clear h hx hin
  unfold undD
  go_enter Try.func33, Try.ntmps33
  go_upto_region 2 with fail
  go_cut [8] (fun s8 wx => ∃ b0 b1 b2 b3, s8 = .pointer (some ⟨b3, 0, none⟩) ∧ b0 = w.heap.size ∧ b1 = w.heap.size + 1 ∧ b2 = w.heap.size + 1 + 1 ∧ PutR w (some ⟨g, 0, none⟩) xs b0 b1 b2 b3 (undD 1 i v 0 false saw 0 (.slice none 0 0) (.slice none 0 0) false (.slice none 0 0) false 0) [.int .u8 1, .int .i64 (i : Int), .int .u64 x, .int .u64 x, .bool true] wx)
  case first =>
    go_region_held3 (fun w' => w'.cell? ⟨g, i, none⟩ = some (.int .u64 x)) (first | exact put3_cell hg hc _ | exact put4_cell hg hc _ _ | go_keep) (first | fail)
    all_goals
      go_wp2_with fail
      go_meet
      exact ⟨_, _, _, _, rfl, rfl, rfl, rfl, HP.out.drew⟩
  case rest =>
    obtain ⟨b0, b1, b2, b3, rfl, hb0, hb1, hb2, hP⟩ := hcut
    rw [← hb2, ← hb1, ← hb0]
    have HR := Lib.hid hP
    obtain ⟨gt0, gt1, gt2, gt3⟩ := hP.gt
    have x0 := hP.u.lt
    have x1 := hP.ru.lt
    have x2 := hP.rd.lt
    have x3 := hP.d.lt
    have y10 : ¬ b1 = b0 := by omega
    have y20 : ¬ b2 = b0 := by omega
    have y12 : ¬ b1 = b2 := by omega
    have y21 : ¬ b2 = b1 := by omega
    have y13 : ¬ b1 = b3 := by omega
    have y23 : ¬ b2 = b3 := by omega
    have y01 : ¬ b0 = b1 := by omega
    have y02 : ¬ b0 = b2 := by omega
    have y03 : ¬ b0 = b3 := by omega
    have y30 : ¬ b3 = b0 := by omega
    have hu := hP.u
    have hru := hP.ru
    have hrd := hP.rd
    unfold undD at hu
    unfold undO undD at hru
    unfold didO at hrd
    obtain ⟨v0, v1, v2, v3, v4, v5, v6, v7, v8, v9, v10, v11, v12⟩ := hu.thirteen
    obtain ⟨q0, q1, q2, q3, q4, q5, q6, q7, q8, q9, q10, q11, q12⟩ := hru.thirteen
    obtain ⟨z0, z1, z2, z3, z4⟩ := hrd.five6
    obtain ⟨e0, e1, e2, e3, e4⟩ := hP.d.five6
    have uf := hP.u.free
    have qf := hP.ru.free
    have zf := hP.rd.free
    obtain ⟨g', hgg, hglt, hcx⟩ := hP.cells i x HX.out
    cases hgg
    have g0 : ¬ b0 = g := by omega
    have g1 : ¬ g = b0 := by omega
    clear hP hu hru hrd hb0 hb1 hb2
    go_wp2
    go_region
    all_goals
      go_wp2
      refine bodyPost_ret (v := .tuple #[.slice (some ⟨g, 0, none⟩) n c, .agg #[.int .u8 1, .int .i64 (i : Int), .int .u32 v, .int .i64 0, .bool true, .int .u64 x, .int .i64 0, .slice none 0 0, .slice none 0 0, .bool false, .slice none 0 0, .bool false, .int .i64 0], .agg #[.int .u8 1, .int .i64 (i : Int), .int .u64 x, .int .u64 x, .bool true]]) (by simp [results, Try.results33, go_sem, q0, q1, q2, q3, q4, q5, q6, q7, q8, q9, q10, q11, q12, z0, z1, z2, z3, z4, y10, y20, y12, y21]) rfl ⟨rfl, ?_⟩
      repeat (first | (with_reducible exact HR.out.low) | (with_reducible refine Below.drew ?_) | (with_reducible refine Below.draws ?_ _) | refine Below.setCell ?_ (by (try simp); omega) _)
end Go.Proofs.Ytdadgppbpomdoaa
