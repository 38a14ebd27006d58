/- THE DOCUMENT'S OWN Step: a SnapGet. -/
import Derived.Test.YtdadgppbpomdoaaQb
namespace Go.Proofs.Ytdadgppbpomdoaa
open Go Go.RowKit
/-- in Step: the operation in its box, the results' places -/
structure BoxR (w : World) (b0 b1 b2 : Nat) (u : List Value) (wx : World) : Prop where
  u : Row wx b0 45 u
  ru : Row wx b1 45 undO
  rd : Row wx b2 48 didO
  gt : w.heap.size ≤ b0 ∧ b0 < b1 ∧ b1 < b2
  low : Below w.heap.size w wx
section
variable {w wx wy : World} {b0 b1 b2 : Nat} {u : List Value}
theorem boxR_begin (w : World) (u : List Value) : BoxR w w.heap.size (w.heap.size + 1) (w.heap.size + 1 + 1) u (((w.alloc (.cells u.toArray 45)).alloc (.cells undO.toArray 45)).alloc (.cells didO.toArray 48)) := by
  have h1 := Row.new (w.alloc (.cells u.toArray 45)) 45 undO
  have h2 := Row.new ((w.alloc (.cells u.toArray 45)).alloc (.cells undO.toArray 45)) 48 didO
  simp only [World.size_alloc] at h1 h2
  exact ⟨((Row.new w _ u).alloc _).alloc _, h1.alloc _, h2, ⟨Nat.le_refl _, by omega, by omega⟩, (((Below.refl _ _).alloc (Nat.le_refl _) _).alloc (by simp) _).alloc (by simp; omega) _⟩
theorem BoxR.on (h : BoxR w b0 b1 b2 u wx) (hb : Below wx.heap.size wx wy) : BoxR w b0 b1 b2 u wy :=
  ⟨h.u.below hb h.u.lt, h.ru.below hb h.ru.lt, h.rd.below hb h.rd.lt, h.gt, h.low.trans (hb.mono h.low.size)⟩
theorem BoxR.set (h : BoxR w b0 b1 b2 u wx) (k : Nat) (v : Value) : BoxR w b0 b1 b2 (u.set k v) (wx.setCell ⟨b0, k, none⟩ v) :=
  ⟨h.u.set _ _, h.ru.far (p := ⟨b0, k, none⟩) (by have := h.gt; show b0 ≠ b1; omega) _, h.rd.far (p := ⟨b0, k, none⟩) (by have := h.gt; show b0 ≠ b2; omega) _, h.gt, h.low.setCell (by have := h.gt; simp; omega) _⟩
end
theorem box_regs {w wx : World} {b0 b1 b2 : Nat} {u : List Value} (h : BoxR w b0 b1 b2 u wx) (x : Int) (a b c : Value) :
    BoxR w b0 b1 b2 (((u.set 10 a).set 11 b).set 12 c) ((((wx.setCell ⟨b0, 10, none⟩ a).setCell ⟨b0, 11, none⟩ b).setCell ⟨b0, 12, none⟩ c).alloc (.cells #[.int .u32 (numW x), .int .u32 (valW x)] 60)) ∧
      Row ((((wx.setCell ⟨b0, 10, none⟩ a).setCell ⟨b0, 11, none⟩ b).setCell ⟨b0, 12, none⟩ c).alloc (.cells #[.int .u32 (numW x), .int .u32 (valW x)] 60)) wx.heap.size 60 (regCells [x]) := by
  refine ⟨(((h.set 10 a).set 11 b).set 12 c).on ((Below.refl _ _).alloc (Nat.le_refl _) _), ?_⟩
  have := Row.new (((wx.setCell ⟨b0, 10, none⟩ a).setCell ⟨b0, 11, none⟩ b).setCell ⟨b0, 12, none⟩ c) 60 (regCells [x])
  simp only [World.size_setCell] at this
  exact this
set_option maxRecDepth 100000
set_option maxHeartbeats 6400000
theorem dstep_get {w : World} {A : Option Addr} {n c i : Nat} {xs : List Int} {x : Int} (h : LiesU w A xs) (hn : xs.length = n) (hx : xs[i]? = some x) (hux : U64 x) :
    Calls Try.prog 15 #[.slice A n c, .agg (undD 2 i 0 0 false 0 0 (.slice none 0 0) (.slice none 0 0) false (.slice none 0 0) false 0).toArray] w fun e w' =>
      ∃ gr, e = .returned (.tuple #[.slice A n c, .agg (undD 2 i 0 0 false 0 0 (.slice none 0 0) (.slice none 0 0) true (.slice (some ⟨gr, 0, none⟩) 1 1) false 0).toArray, .agg #[.int .u8 1, .int .i64 (i : Int), .int .u64 x, .int .u64 x, .bool true]]) ∧ w.heap.size ≤ gr ∧ Row w' gr 60 (regCells [x]) ∧ Below w.heap.size w w' := by
  have hin := lt_of_get hx
  have HB := Lib.hid (boxR_begin w (undD 2 i 0 0 false 0 0 (.slice none 0 0) (.slice none 0 0) true (.slice none 0 0) false 0))
  have HX := Lib.hid hx
  have HUX := Lib.hid hux
  have HL := Lib.hid h
  obtain ⟨g, rfl, hg, hc⟩ := h i x hx
  have hlt : (i : Int) < (n : Int) := by omega
  have hcA := put3_cell hg hc (undD 2 i 0 0 false 0 0 (.slice none 0 0) (.slice none 0 0) true (.slice none 0 0) false 0)
  have hcB : (((w.alloc (.cells (undD 2 i 0 0 false 0 0 (.slice none 0 0) (.slice none 0 0) true (.slice none 0 0) false 0).toArray 45)).alloc (.cells undO.toArray 45)).alloc (.cells didO.toArray 48)).cell? ⟨g, i, none⟩ = some (.int .u64 x) := hcA
  unfold undO didO undD at hcB
  clear h hx hin hux hcA
  unfold undD
  go_enter Try.func15, Try.ntmps15
  go_upto_region 9 with fail
  go_cut [] (fun wx => ∃ b0 b1 b2 gr, b0 = w.heap.size ∧ b1 = w.heap.size + 1 ∧ b2 = w.heap.size + 1 + 1 ∧ BoxR w b0 b1 b2 (undD 2 i 0 0 false 0 0 (.slice none 0 0) (.slice none 0 0) true (.slice (some ⟨gr, 0, none⟩) 1 1) false 0) wx ∧ Row wx gr 60 (regCells [x]) ∧ w.heap.size ≤ gr)
  case first =>
    go_wp2_with (go_at_call 35; refine (dreg_any HUX.out _).mono ?_; unfold regV; rintro e w1 ⟨rfl, hb1⟩; have HB1 := Lib.hid (HB.out.on hb1); have hu := HB1.out.u; unfold undD at hu; obtain ⟨v0, v1, v2, v3, v4, v5, v6, v7, v8, v9, v10, v11, v12⟩ := hu.thirteen; have uf := HB1.out.u.free; have ult := HB1.out.u.lt; clear hu hb1)
    go_meet
    exact ⟨_, _, _, _, rfl, rfl, rfl, (box_regs HB1.out x _ _ _).1, (box_regs HB1.out x _ _ _).2, HB1.out.low.size⟩
  case rest =>
    obtain ⟨b0, b1, b2, gr, hb0, hb1, hb2, hP, hr, hgr⟩ := hcut
    rw [← hb2, ← hb1, ← hb0]
    have HR := Lib.hid hP
    have HGR := Lib.hid hr
    have HGL := Lib.hid hgr
    obtain ⟨gt0, gt1, gt2⟩ := hP.gt
    have x0 := hP.u.lt
    have x1 := hP.ru.lt
    have x2 := hP.rd.lt
    have y10 : ¬ b1 = b0 := by omega
    have y20 : ¬ b2 = b0 := by omega
    have y12 : ¬ b1 = b2 := by omega
    have y21 : ¬ b2 = b1 := by omega
    have hu := hP.u
    have hru := hP.ru
    have hrd := hP.rd
    unfold undD at hu
    unfold undO undD at hru
    unfold didO at hrd
    obtain ⟨v0, v1, v2, v3, v4, v5, v6, v7, v8, v9, v10, v11, v12⟩ := hu.thirteen
    obtain ⟨q0, q1, q2, q3, q4, q5, q6, q7, q8, q9, q10, q11, q12⟩ := hru.thirteen
    obtain ⟨z0, z1, z2, z3, z4⟩ := hrd.five6
    have qf := hP.ru.free
    have zf := hP.rd.free
    have hcx := (hP.low.cell (p := ⟨g, i, none⟩) hg).trans hc
    have g1 : ¬ g = b1 := by omega
    have g2 : ¬ b1 = g := by omega
    have g3 : ¬ g = b2 := by omega
    have g4 : ¬ b2 = g := by omega
    have t1 : ¬ gr = b1 := fun e => by subst e; exact absurd rfl (hr.ne hP.ru (by decide))
    have t2 : ¬ gr = b2 := fun e => by subst e; exact absurd rfl (hr.ne hP.rd (by decide))
    clear hP hu hru hrd hb0 hb1 hb2 hr hgr
    go_wp2
    go_region
    all_goals
      go_wp2
      refine bodyPost_ret (v := .tuple #[.slice (some ⟨g, 0, none⟩) n c, .agg #[.int .u8 2, .int .i64 (i : Int), .int .u32 0, .int .i64 0, .bool false, .int .u64 0, .int .i64 0, .slice none 0 0, .slice none 0 0, .bool true, .slice (some ⟨gr, 0, none⟩) 1 1, .bool false, .int .i64 0], .agg #[.int .u8 1, .int .i64 (i : Int), .int .u64 x, .int .u64 x, .bool true]]) (by simp [results, Try.results15, go_sem, q0, q1, q2, q3, q4, q5, q6, q7, q8, q9, q10, q11, q12, z0, z1, z2, z3, z4, y10, y20, y12, y21]) rfl ⟨gr, rfl, HGL.out, ?_, ?_⟩
      · repeat (first | (with_reducible exact HGR.out) | (with_reducible refine Row.drew ?_) | (with_reducible refine Row.drewN ?_ _) | refine Row.far ?_ (by first | exact fun e => t1 e.symm | exact fun e => t2 e.symm) _)
      · repeat (first | (with_reducible exact HR.out.low) | (with_reducible refine Below.drew ?_) | (with_reducible refine Below.draws ?_ _) | refine Below.setCell ?_ (by (try simp); omega) _)
end Go.Proofs.Ytdadgppbpomdoaa
