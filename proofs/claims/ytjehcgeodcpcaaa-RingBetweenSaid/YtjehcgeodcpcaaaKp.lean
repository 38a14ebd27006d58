/- THE WALKS of the document's ring: what Step has in memory; set. -/
import Derived.Test.YtjehcgeodcpcaaaKn
import Derived.Outline
import Derived.Deep.Cut
import Derived.Deep.CutRange
import Derived.Deep.RegionHeld3
import Derived.Deep.AppendLies
namespace Go.Proofs.Ytjehcgeodcpcaaa
open Go Go.RowKit

theorem Below.draws {B : Nat} {w w' : World} (h : Below B w w') (n : Nat) : Below B w (w'.drewN n) := ⟨h.os, h.tape, h.output, h.size, h.block⟩
/-- the list of words lies in memory -/
def LiesU (w : World) (A : Option Addr) (xs : List Int) : Prop := ∀ j x, xs[j]? = some x → ∃ g, A = some ⟨g, 0, none⟩ ∧ g < w.heap.size ∧ w.cell? ⟨g, j, none⟩ = some (.int .u64 x)
theorem LiesU.below {w w' : World} {A : Option Addr} {xs : List Int} (h : LiesU w A xs) (hb : Below w.heap.size w w') : LiesU w' A xs := fun j x hx => by
  obtain ⟨g, e, hg, hc⟩ := h j x hx
  exact ⟨g, e, Nat.lt_of_lt_of_le hg hb.size, (hb.cell (p := ⟨g, j, none⟩) hg).trans hc⟩
theorem own_liesU {w : World} {base n c : Nat} {e : TypeId} {A : Option Addr} {xs : List Int} (h : w.ownsRow base e 1 (.slice A n c) n (u64s xs)) : LiesU w A xs := fun j x hx => by
  have hj := lt_of_get hx
  have h' := h
  rcases h'.2 with ⟨_, e0⟩ | ⟨g, cap, cur, hv, _, hh, _⟩
  · have hl := h.1
    simp [u64s] at hl
    omega
  · cases hv
    exact ⟨g, rfl, lt_of_block hh, own_lies h j x hx⟩
theorem own_block {w : World} {base n size : Nat} {e : TypeId} {v : Value} {xs : List Value} (h : w.ownsRow base e size v n xs) : ∀ q, v.ownBlock = some q → q < w.heap.size := by
  intro q hq
  rcases h.2 with ⟨rfl, _⟩ | ⟨g, cap, cur, rfl, _, hh, _⟩
  · cases hq
  · simp [Value.ownBlock] at hq
    subst hq
    exact lt_of_block hh
theorem ownsRow_base {w : World} {base base' : Nat} {e : TypeId} {size : Nat} {v : Value} {n : Nat} {xs : List Value} (h : w.ownsRow base e size v n xs) (hb : base' ≤ base) : w.ownsRow base' e size v n xs := by
  obtain ⟨h1, h2⟩ := h
  refine ⟨h1, ?_⟩
  rcases h2 with h2 | ⟨g, cap, cur, hv, hg, r⟩
  · exact Or.inl h2
  · exact Or.inr ⟨g, cap, cur, hv, Nat.le_trans hb hg, r⟩
/-- the document's operation under way: ten cells -/
def undN (k t n : Int) (bg ld : Bool) (saw nx : Int) (en : Bool) (sm why : Int) : List Value := [.int .u8 k, .int .i64 t, .int .u64 n, .bool bg, .bool ld, .int .u64 saw, .int .i64 nx, .bool en, .int .u64 sm, .int .i64 why]
def undNO : List Value := [.int .u8 0, .int .i64 0, .int .u64 0, .bool false, .bool false, .int .u64 0, .int .i64 0, .bool false, .int .u64 0, .int .i64 0]
def didNO : List Value := [.int .u8 0, .int .i64 0, .int .u64 0, .int .u64 0, .bool false]
theorem Row.ten {w : World} {b : Nat} {t : TypeId} {x0 x1 x2 x3 x4 x5 x6 x7 x8 x9 : Value} (h : Row w b t [x0, x1, x2, x3, x4, x5, x6, x7, x8, x9]) :
    w.cell? ⟨b, 0, none⟩ = some x0 ∧ w.cell? ⟨b, 1, none⟩ = some x1 ∧ w.cell? ⟨b, 2, none⟩ = some x2 ∧ w.cell? ⟨b, 3, none⟩ = some x3 ∧ w.cell? ⟨b, 4, none⟩ = some x4 ∧ w.cell? ⟨b, 5, none⟩ = some x5 ∧ w.cell? ⟨b, 6, none⟩ = some x6 ∧ w.cell? ⟨b, 7, none⟩ = some x7 ∧ w.cell? ⟨b, 8, none⟩ = some x8 ∧ w.cell? ⟨b, 9, none⟩ = some x9 := ⟨h.cell 0, h.cell 1, h.cell 2, h.cell 3, h.cell 4, h.cell 5, h.cell 6, h.cell 7, h.cell 8, h.cell 9⟩
theorem Row.five6 {w : World} {b : Nat} {t : TypeId} {x0 x1 x2 x3 x4 : Value} (h : Row w b t [x0, x1, x2, x3, x4]) :
    w.cell? ⟨b, 0, none⟩ = some x0 ∧ w.cell? ⟨b, 1, none⟩ = some x1 ∧ w.cell? ⟨b, 2, none⟩ = some x2 ∧ w.cell? ⟨b, 3, none⟩ = some x3 ∧ w.cell? ⟨b, 4, none⟩ = some x4 := ⟨h.cell 0, h.cell 1, h.cell 2, h.cell 3, h.cell 4⟩
theorem Row.two2 {w : World} {b : Nat} {t : TypeId} {x0 x1 : Value} (h : Row w b t [x0, x1]) : w.cell? ⟨b, 0, none⟩ = some x0 ∧ w.cell? ⟨b, 1, none⟩ = some x1 := ⟨h.cell 0, h.cell 1⟩
/-- in Step and sum: the window and the operation in their boxes, the results' places -/
structure StpR (w : World) (b0 b1 b2 b3 b4 : Nat) (r u : List Value) (wx : World) : Prop where
  r : Row wx b0 31 r
  u : Row wx b1 45 u
  rr : Row wx b2 31 [.int .i64 0, .slice none 0 0]
  ru : Row wx b3 45 undNO
  rd : Row wx b4 48 didNO
  gt : w.heap.size ≤ b0 ∧ b0 < b1 ∧ b1 < b2 ∧ b2 < b3 ∧ b3 < b4
  low : Below w.heap.size w wx
section
variable {w wx wy : World} {b0 b1 b2 b3 b4 : Nat} {r u : List Value}
theorem stpR_begin (w : World) (r u : List Value) : StpR w w.heap.size (w.heap.size + 1) (w.heap.size + 1 + 1) (w.heap.size + 1 + 1 + 1) (w.heap.size + 1 + 1 + 1 + 1) r u
    (((((w.alloc (.cells r.toArray 31)).alloc (.cells u.toArray 45)).alloc (.cells #[.int .i64 0, .slice none 0 0] 31)).alloc (.cells undNO.toArray 45)).alloc (.cells didNO.toArray 48)) := by
  have h1 := Row.new (w.alloc (.cells r.toArray 31)) 45 u
  have h2 := Row.new ((w.alloc (.cells r.toArray 31)).alloc (.cells u.toArray 45)) 31 [.int .i64 0, .slice none 0 0]
  have h3 := Row.new (((w.alloc (.cells r.toArray 31)).alloc (.cells u.toArray 45)).alloc (.cells #[.int .i64 0, .slice none 0 0] 31)) 45 undNO
  have h4 := Row.new ((((w.alloc (.cells r.toArray 31)).alloc (.cells u.toArray 45)).alloc (.cells #[.int .i64 0, .slice none 0 0] 31)).alloc (.cells undNO.toArray 45)) 48 didNO
  simp only [World.size_alloc] at h1 h2 h3 h4
  exact ⟨((((Row.new w _ r).alloc _).alloc _).alloc _).alloc _, ((h1.alloc _).alloc _).alloc _, (h2.alloc _).alloc _, h3.alloc _, h4, ⟨Nat.le_refl _, by omega, by omega, by omega, by omega⟩, (((((Below.refl _ _).alloc (Nat.le_refl _) _).alloc (by simp) _).alloc (by simp; omega) _).alloc (by simp; omega) _).alloc (by simp; omega) _⟩
theorem StpR.on (h : StpR w b0 b1 b2 b3 b4 r u wx) (hb : Below wx.heap.size wx wy) : StpR w b0 b1 b2 b3 b4 r u wy :=
  ⟨h.r.below hb h.r.lt, h.u.below hb h.u.lt, h.rr.below hb h.rr.lt, h.ru.below hb h.ru.lt, h.rd.below hb h.rd.lt, h.gt, h.low.trans (hb.mono h.low.size)⟩
theorem StpR.drew (h : StpR w b0 b1 b2 b3 b4 r u wx) : StpR w b0 b1 b2 b3 b4 r u wx.drew := h.on (Below.draws (Below.refl _ _) 1)
theorem StpR.setU (h : StpR w b0 b1 b2 b3 b4 r u wx) (k : Nat) (v : Value) : StpR w b0 b1 b2 b3 b4 r (u.set k v) (wx.setCell ⟨b1, k, none⟩ v) := by
  have hg := h.gt
  exact ⟨h.r.far (p := ⟨b1, k, none⟩) (by show b1 ≠ b0; omega) _, h.u.set _ _, h.rr.far (p := ⟨b1, k, none⟩) (by show b1 ≠ b2; omega) _, h.ru.far (p := ⟨b1, k, none⟩) (by show b1 ≠ b3; omega) _, h.rd.far (p := ⟨b1, k, none⟩) (by show b1 ≠ b4; omega) _, h.gt, h.low.setCell (by simp; omega) _⟩
theorem StpR.setR (h : StpR w b0 b1 b2 b3 b4 r u wx) (k : Nat) (v : Value) : StpR w b0 b1 b2 b3 b4 (r.set k v) u (wx.setCell ⟨b0, k, none⟩ v) := by
  have hg := h.gt
  exact ⟨h.r.set _ _, h.u.far (p := ⟨b0, k, none⟩) (by show b0 ≠ b1; omega) _, h.rr.far (p := ⟨b0, k, none⟩) (by show b0 ≠ b2; omega) _, h.ru.far (p := ⟨b0, k, none⟩) (by show b0 ≠ b3; omega) _, h.rd.far (p := ⟨b0, k, none⟩) (by show b0 ≠ b4; omega) _, h.gt, h.low.setCell (by simp; omega) _⟩
end
theorem infoU8 : (Try.prog.info? 37).map (fun i => (i.zero, i.size, i.bytes)) = some (some (.int .u64 0), 1, 8) := by kernel_rfl
theorem all_u64 (l : List Int) : ∀ u ∈ u64s l, u.oneCell' = true := by
  intro u hu
  simp [u64s] at hu
  obtain ⟨x, _, rfl⟩ := hu
  rfl
set_option maxRecDepth 100000
set_option maxHeartbeats 3200000
/-- set: a list of its own memory, one word other -/
theorem dset_any {w : World} {A : Option Addr} {n c i : Nat} {xs ys : List Int} {y : Int} (h : LiesU w A xs) (hn : xs.length = n) (hi : i < n) (hl : n ≤ 4096) (hy : xs.set i y = ys) :
    Calls Try.prog 31 #[.slice A n c, .int .i64 (i : Int), .int .u64 y] w fun e w' => ∃ g cg, e = .returned (.slice (some ⟨g, 0, none⟩) n cg) ∧ w.heap.size ≤ g ∧ w'.ownsRow w.heap.size 37 1 (.slice (some ⟨g, 0, none⟩) n cg) n (u64s ys) ∧ Below w.heap.size w w' := by
  obtain ⟨i0, hi0, hz0, hz1, hz2⟩ := info_parts infoU8
  obtain ⟨g, rfl, hg, _⟩ := h 0 (xs[0]'(by omega)) (by simp)
  have HS : Hid (∀ j u, (u64s xs)[j]? = some u → w.cell? ((⟨g, 0, none⟩ : Addr).add j) = some u) := Lib.hid (fun j u hj => by
    have hx : ∃ x, xs[j]? = some x ∧ u = .int .u64 x := by
      simp only [u64s, List.getElem?_map] at hj
      obtain ⟨x, h1, h2⟩ := Option.map_eq_some_iff.1 hj
      exact ⟨x, h1, h2.symm⟩
    obtain ⟨x, h1, rfl⟩ := hx
    obtain ⟨g', e, _, hc⟩ := h j x h1
    cases e
    rw [Addr.add_lit]
    simpa using hc)
  have HLN : Hid ((u64s xs).length = n * 1) := Lib.hid (by simp [u64s, hn])
  have H3 : Hid (0 + n ≤ maxLen) := Lib.hid (by unfold maxLen; omega)
  have H4 : Hid ((0 + n) * 8 ≤ 140737488355328) := Lib.hid (by omega)
  obtain ⟨x, hx⟩ : ∃ x, xs[i]? = some x := ⟨_, List.getElem?_eq_getElem (by omega)⟩
  have HX := Lib.hid hx
  clear hx
  have HI := Lib.hid hi
  have HY := Lib.hid hy
  have hin : (i : Int) < (n : Int) := by omega
  clear h hy
  go_enter Try.func31, Try.ntmps31
  go_wp2_with (at_builtin; refine wpList_append_lies _ rfl _ _ 29 rfl w.heap.size 37 i0 (.int .u64 0) 1 8 Try.underlying29 hi0 hz0 hz1 hz2 rfl (by decide) _ 0 [] rfl (World.ownsRow_nil _ _ _ _) ⟨g, 0, none⟩ n c (u64s xs) rfl HLN.out HS.out (all_u64 _) (by omega) H3.out H4.out (Nat.le_refl _) _ rfl ?_; intro g6 c6 w6 hown6 hgr6 hat6 _; simp only [Nat.zero_add, List.nil_append] at hown6 ⊢; have HO := Lib.hid hown6; have HG : Hid (w.heap.size ≤ g6) := Lib.hid (own_from hown6 g6 rfl); have HB : Hid (Below w.heap.size w w6) := Lib.hid ((Below.refl _ _).grown hgr6 (Nat.le_refl _) (fun q e => absurd (show (none : Option Nat) = some q from e) (by simp))); have hc := own_cell hown6 (show (u64s xs)[i]? = some (.int .u64 x) from by rw [u64s_get, HX.out]; rfl); have hf := hown6.frozenAt; have hlt6 := own_block hown6 g6 rfl; clear hown6 hgr6 hat6)
  go_ret
  have h6 := (HO.out.stored i (.int .u64 y)).1
  rw [u64s_set, HY.out] at h6
  exact ⟨g6, c6, rfl, HG.out, h6, HB.out.setCell (by simpa using HG.out) _⟩
end Go.Proofs.Ytjehcgeodcpcaaa
