/- THE WALKS of the document's own answers for shards: Step, Many, Whole. -/
import Derived.Test.YtcocegneegjcpaaSd
import Derived.Outline
import Derived.Deep.Cut
import Derived.Deep.CutRange
import Derived.Deep.DeepCutAuto
import Derived.Deep.RegionHeld3
namespace Go.Proofs.Ytcocegneegjcpaa
open Go Go.RowKit

theorem Row.five5 {w : World} {b : Nat} {t : TypeId} {x0 x1 x2 x3 x4 : Value} (h : Row w b t [x0, x1, x2, x3, x4]) :
    w.cell? ⟨b, 0, none⟩ = some x0 ∧ w.cell? ⟨b, 1, none⟩ = some x1 ∧ w.cell? ⟨b, 2, none⟩ = some x2 ∧ w.cell? ⟨b, 3, none⟩ = some x3 ∧ w.cell? ⟨b, 4, none⟩ = some x4 :=
  ⟨h.cell 0, h.cell 1, h.cell 2, h.cell 3, h.cell 4⟩
theorem Row.new3s (w : World) (o o' : Obj) (t : TypeId) (l : List Value) {n : Nat} (hn : n = w.heap.size + 2) : Row (((w.alloc o).alloc o').alloc (.cells l.toArray t)) n t l := by
  subst hn
  have h := Row.new ((w.alloc o).alloc o') t l
  rwa [World.size_alloc, World.size_alloc] at h
theorem Below.drewNs {B : Nat} {a w : World} (h : Below B a w) (n : Nat) : Below B a (w.drewN n) := ⟨h.os, h.tape, h.output, h.size, h.block⟩
/-- in Step: the operation in its box, the results' places, the copy, what was done -/
structure StepR (w : World) (n b0 b1 b2 b3 g c : Nat) (u d : List Value) (ys : List Int) (wx : World) : Prop where
  u : Row wx b0 70 u
  ru : Row wx b1 70 [.int .u8 0, .int .i64 0, .int .u64 0, .int .i64 0, .int .u64 0]
  rd : Row wx b2 45 [.int .u8 0, .int .i64 0, .int .u64 0, .int .u64 0, .bool false]
  d : Row wx b3 45 d
  own : wx.ownsRow w.heap.size 29 1 (.slice (some ⟨g, 0, none⟩) n c) n (u64s ys)
  gt : w.heap.size ≤ b0 ∧ b0 < b1 ∧ b1 < b2 ∧ b2 < g ∧ g < b3
  low : Below w.heap.size w wx
/-- what Step leaves -/
def RStepD (w : World) (n : Nat) (ys : List Int) (u : List Value) (d : Value) (e : Ending) (w' : World) : Prop :=
  ∃ g c, e = .returned (.tuple #[.slice (some ⟨g, 0, none⟩) n c, .agg u.toArray, d]) ∧ w.heap.size ≤ g ∧ w'.ownsRow w.heap.size 29 1 (.slice (some ⟨g, 0, none⟩) n c) n (u64s ys) ∧ Below w.heap.size w w'
theorem own_baseS {w : World} {base base' n size : Nat} {e : TypeId} {v : Value} {xs : List Value} (h : w.ownsRow base e size v n xs) (hb : base' ≤ base) : w.ownsRow base' e size v n xs := by
  obtain ⟨h1, h2⟩ := h
  refine ⟨h1, ?_⟩
  rcases h2 with h2 | ⟨g, cap, cur, hv, hg, r⟩
  · exact .inl h2
  · exact .inr ⟨g, cap, cur, hv, Nat.le_trans hb hg, r⟩
theorem own_cellS {w : World} {base n c g : Nat} {e : TypeId} {size : Nat} {xs : List Value} (h : w.ownsRow base e size (.slice (some ⟨g, 0, none⟩) n c) n xs) {j : Nat} {u : Value} (hj : xs[j]? = some u) : w.cell? ⟨g, j, none⟩ = some u := by
  have := h.cells (g := g) rfl j u hj
  rwa [add_zero_] at this

theorem own_partS {w w' : World} {S : List Nat} {base : Nat} {e : TypeId} {size : Nat} {g c : Nat} {n : Nat} {xs : List Value} (h : w.ownsRow base e size (.slice (some ⟨g, 0, none⟩) n c) n xs) (hp : Part S w w') (hS : g ∉ S) : w'.ownsRow base e size (.slice (some ⟨g, 0, none⟩) n c) n xs := by
  obtain ⟨h1, h2⟩ := h
  refine ⟨h1, ?_⟩
  rcases h2 with h2 | ⟨g', cap, cur, hv, hg, hh, r⟩
  · exact Or.inl h2
  · cases hv
    exact Or.inr ⟨g, c, cur, rfl, hg, (hp.block g (lt_of_block hh) hS).trans hh, r⟩
theorem own_setS {w : World} {base : Nat} {g c n cell : Nat} {p : Int} {ys : List Int} (h : w.ownsRow base 29 1 (.slice (some ⟨g, 0, none⟩) n c) n (u64s ys)) : (w.setCell ⟨g, cell, none⟩ (.int .u64 p)).ownsRow base 29 1 (.slice (some ⟨g, 0, none⟩) n c) n (u64s (ys.set cell p)) := by
  have h0 := (h.stored cell (.int .u64 p)).1
  rw [u64s_set] at h0
  exact h0
theorem stepR_of {w w1 : World} {n g c : Nat} {xs : List Int} {u0 d : List Value} (hu : Row w1 w.heap.size 70 u0) (hru : Row w1 (w.heap.size + 1) 70 [.int .u8 0, .int .i64 0, .int .u64 0, .int .i64 0, .int .u64 0]) (hrd : Row w1 (w.heap.size + 1 + 1) 45 [.int .u8 0, .int .i64 0, .int .u64 0, .int .u64 0, .bool false]) (ho : w1.ownsRow w.heap.size 29 1 (.slice (some ⟨g, 0, none⟩) n c) n (u64s xs)) (hg : w.heap.size + 1 + 1 < g) (hlt : g < w1.heap.size) (hb : Below w.heap.size w w1) (cell : Nat) (p : Int) (v3 v4 : Value) (dd : Array Value) (_ : d.toArray = dd := by rfl) :
    StepR w n w.heap.size (w.heap.size + 1) (w.heap.size + 1 + 1) w1.heap.size g c ((u0.set 4 v4).set 3 v3) d (xs.set cell p) ((((w1.setCell ⟨w.heap.size, 4, none⟩ v4).setCell ⟨g, cell, none⟩ (.int .u64 p)).setCell ⟨w.heap.size, 3, none⟩ v3).alloc (.cells dd 45)) := by
  subst_vars
  have hsz : (((w1.setCell ⟨w.heap.size, 4, none⟩ v4).setCell ⟨g, cell, none⟩ (.int .u64 p)).setCell ⟨w.heap.size, 3, none⟩ v3).heap.size = w1.heap.size := by simp
  refine ⟨((((hu.set 4 v4).far (p := ⟨g, cell, none⟩) (by show g ≠ _; omega) _).set 3 v3).alloc _), ((((hru.far (p := ⟨w.heap.size, 4, none⟩) (by show w.heap.size ≠ _; omega) _).far (p := ⟨g, cell, none⟩) (by show g ≠ _; omega) _).far (p := ⟨w.heap.size, 3, none⟩) (by show w.heap.size ≠ _; omega) _).alloc _), ((((hrd.far (p := ⟨w.heap.size, 4, none⟩) (by show w.heap.size ≠ _; omega) _).far (p := ⟨g, cell, none⟩) (by show g ≠ _; omega) _).far (p := ⟨w.heap.size, 3, none⟩) (by show w.heap.size ≠ _; omega) _).alloc _), ?_, ?_, ⟨Nat.le_refl _, by omega, by omega, hg, hlt⟩, ?_⟩
  · have := Row.new (((w1.setCell ⟨w.heap.size, 4, none⟩ v4).setCell ⟨g, cell, none⟩ (.int .u64 p)).setCell ⟨w.heap.size, 3, none⟩ v3) 45 d
    rw [hsz] at this
    exact this
  · have h1 := own_partS ho (S := [w.heap.size]) (Part.set (p := ⟨w.heap.size, 4, none⟩) (Part.refl _ w1) (by simp) v4) (by simp; omega)
    have h2 := own_setS (cell := cell) (p := p) h1
    have h3 := own_partS h2 (S := [w.heap.size]) (Part.set (p := ⟨w.heap.size, 3, none⟩) (Part.refl _ _) (by simp) v3) (by simp; omega)
    exact h3.alloc _
  · exact (((hb.setCell (by simp) _).setCell (by simp; omega) _).setCell (by simp) _).alloc (by simp; exact hb.size) _
abbrev step0 (w : World) (u0 : List Value) : World := ((w.alloc (.cells u0.toArray 70)).alloc (.cells #[.int .u8 0, .int .i64 0, .int .u64 0, .int .i64 0, .int .u64 0] 70)).alloc (.cells #[.int .u8 0, .int .i64 0, .int .u64 0, .int .u64 0, .bool false] 45)
theorem step0_below (w : World) (u0 : List Value) : Below w.heap.size w (step0 w u0) := (((Below.refl _ _).alloc (Nat.le_refl _) _).alloc (by simp) _).alloc (by simp; omega) _
theorem step_lies {w : World} {u0 : List Value} {g0 : Nat} {xs : List Int} (h : Lies w g0 xs) (hg : g0 < w.heap.size) : Lies (step0 w u0) g0 xs := h.below (step0_below w u0) hg
theorem step_lt {w : World} {u0 : List Value} {g0 : Nat} (hg : g0 < w.heap.size) : g0 < (step0 w u0).heap.size := by simp; omega
theorem step_copied {w w1 : World} {xs : List Int} {g c : Nat} (u0 : List Value) (hgl : (step0 w u0).heap.size ≤ g) (hown : w1.ownsRow (step0 w u0).heap.size 29 1 (.slice (some ⟨g, 0, none⟩) xs.length c) xs.length (u64s xs)) (hb : Below (step0 w u0).heap.size (step0 w u0) w1) :
    Row w1 w.heap.size 70 u0 ∧ Row w1 (w.heap.size + 1) 70 [.int .u8 0, .int .i64 0, .int .u64 0, .int .i64 0, .int .u64 0] ∧ Row w1 (w.heap.size + 1 + 1) 45 [.int .u8 0, .int .i64 0, .int .u64 0, .int .u64 0, .bool false] ∧ w1.ownsRow w.heap.size 29 1 (.slice (some ⟨g, 0, none⟩) xs.length c) xs.length (u64s xs) ∧ w.heap.size + 1 + 1 < g ∧ Below w.heap.size w w1 := by
  have hs : (step0 w u0).heap.size = w.heap.size + 1 + 1 + 1 := by simp
  refine ⟨(((Row.new w 70 u0).alloc _).alloc _).below hb (by omega), ((Row.new2 w _ 70 [.int .u8 0, .int .i64 0, .int .u64 0, .int .i64 0, .int .u64 0] rfl).alloc _).below hb (by omega), (Row.new3s w _ _ 45 [.int .u8 0, .int .i64 0, .int .u64 0, .int .u64 0, .bool false] rfl).below hb (by omega), own_baseS hown (by omega), by omega, (step0_below w u0).trans (hb.mono (by omega))⟩
set_option maxRecDepth 100000
set_option maxHeartbeats 6400000
theorem rs_add {w : World} {g0 c0 : Nat} {xs : List Int} (h : Lies w g0 xs) (hg : g0 < w.heap.size) (h0 : 0 < xs.length) (hl : xs.length ≤ 64) {i : Nat} {y x : Int} (hx : xs[i % xs.length]? = some x) (_hi : i ≤ 9223372036854775807) :
    Calls Try.prog 28 #[.slice (some ⟨g0, 0, none⟩) xs.length c0, .agg #[.int .u8 1, .int .i64 (i : Int), .int .u64 y, .int .i64 0, .int .u64 0]] w (RStepD w xs.length (xs.set (i % xs.length) (IntKind.u64.wrap (x + y))) [.int .u8 1, .int .i64 (i : Int), .int .u64 y, .int .i64 1, .int .u64 (IntKind.u64.wrap (x + y))] (.agg #[.int .u8 3, .int .i64 ((i % xs.length : Nat) : Int), .int .u64 x, .int .u64 (IntKind.u64.wrap (x + y)), .bool true])) := by
  have hm := tmod_nat i xs.length
  have hn : ¬ xs = [] := by rintro rfl; simp at h0
  have hn' : ¬ (xs.length : Int) = 0 := by omega
  have hlt : i % xs.length < xs.length := Nat.mod_lt _ h0
  have H := Lib.hid h
  have HX := Lib.hid hx
  have HL := Lib.hid hl
  clear h hx
  go_enter Try.func28, Try.ntmps28
  go_upto_region 21 with (go_at_call 66; refine (copy_any (step_lies H.out hg) (step_lt hg) h0 (by have := HL.out; omega)).mono ?_; rintro e w1 ⟨g, c, rfl, hgl, hown, hb⟩; have hcp := step_copied [.int .u8 1, .int .i64 (i : Int), .int .u64 y, .int .i64 0, .int .u64 0] hgl hown hb; obtain ⟨hU, hRU, hRD, hO, hgg, hB⟩ := hcp; have HU := Lib.hid hU; have HRU := Lib.hid hRU; have HRD := Lib.hid hRD; have HOWN := Lib.hid hO; have HB := Lib.hid hB; have hl1 := (H.out.below hB hg) _ x HX.out; obtain ⟨u0, u1, u2, u3, u4⟩ := hU.five5; have uf := hU.free; have ult := hU.lt; have gc := own_cellS hO (show (u64s xs)[i % xs.length]? = some (.int .u64 x) from (by rw [u64s_get, HX.out]; rfl)); have gf := hO.frozenAt; have glt := World.block_lt_of_cell? _ _ gc; have hg1 : g0 < w1.heap.size := Nat.lt_of_lt_of_le hg hB.size; have hgne : w.heap.size ≠ g := (by omega); have hgne2 : g ≠ w.heap.size := (by omega); clear hgl hown hb hU hRU hRD hO hB)
  go_cut [3, 5, 6, 7, 8] (fun s3 s5 s6 s7 s8 wz => ∃ b0 b1 b2 b3 g c, s3 = .pointer (some ⟨b0, 0, none⟩) ∧ s5 = .pointer (some ⟨b1, 0, none⟩) ∧ s6 = .pointer (some ⟨b2, 0, none⟩) ∧ s7 = .slice (some ⟨g, 0, none⟩) xs.length c ∧ s8 = .pointer (some ⟨b3, 0, none⟩) ∧ StepR w xs.length b0 b1 b2 b3 g c [.int .u8 1, .int .i64 (i : Int), .int .u64 y, .int .i64 1, .int .u64 (IntKind.u64.wrap (x + y))] [.int .u8 3, .int .i64 ((i % xs.length : Nat) : Int), .int .u64 x, .int .u64 (IntKind.u64.wrap (x + y)), .bool true] (xs.set (i % xs.length) (IntKind.u64.wrap (x + y))) wz)
  case first =>
    go_wp2_with (fail)
    go_meet
    exact ⟨_, _, _, _, _, _, rfl, rfl, rfl, rfl, rfl, stepR_of HU.out HRU.out HRD.out HOWN.out hgg glt HB.out _ _ _ _ _⟩
  case rest =>
    obtain ⟨b0, b1, b2, b3, g', c', rfl, rfl, rfl, rfl, rfl, hR⟩ := hcut
    have HR := Lib.hid hR
    have x0 := hR.u.lt
    have x1 := hR.ru.lt
    have x2 := hR.rd.lt
    have x3 := hR.d.lt
    obtain ⟨gt0, gt1, gt2, gt3, gt4⟩ := hR.gt
    have y10 : ¬ b1 = b0 := by omega
    have y20 : ¬ b2 = b0 := by omega
    have y12 : ¬ b1 = b2 := by omega
    have y21 : ¬ b2 = b1 := by omega
    have y13 : ¬ b1 = b3 := by omega
    have y23 : ¬ b2 = b3 := by omega
    obtain ⟨v0, v1, v2, v3, v4⟩ := hR.u.five5
    obtain ⟨q0, q1, q2, q3, q4⟩ := hR.ru.five5
    obtain ⟨z0, z1, z2, z3, z4⟩ := hR.rd.five5
    obtain ⟨e0, e1, e2, e3, e4⟩ := hR.d.five5
    have qf := hR.ru.free
    have zf := hR.rd.free
    clear hR
    go_wp2_with (fail)
    go_region_held3 (fun w' => w'.cell? ⟨b0, 0, none⟩ = some (.int .u8 1) ∧ w'.cell? ⟨b0, 1, none⟩ = some (.int .i64 (i : Int)) ∧ w'.cell? ⟨b0, 2, none⟩ = some (.int .u64 y) ∧ w'.cell? ⟨b0, 3, none⟩ = some (.int .i64 1) ∧ w'.cell? ⟨b0, 4, none⟩ = some (.int .u64 (IntKind.u64.wrap (x + y))) ∧ w'.cell? ⟨b3, 0, none⟩ = some (.int .u8 3) ∧ w'.cell? ⟨b3, 1, none⟩ = some (.int .i64 ((i % xs.length : Nat) : Int)) ∧ w'.cell? ⟨b3, 2, none⟩ = some (.int .u64 x) ∧ w'.cell? ⟨b3, 3, none⟩ = some (.int .u64 (IntKind.u64.wrap (x + y))) ∧ w'.cell? ⟨b3, 4, none⟩ = some (.bool true))
      (first | (with_reducible exact ⟨v0, v1, v2, v3, v4, e0, e1, e2, e3, e4⟩) | go_keep)
      (first | fail)
    all_goals
      go_wp2_with fail
      refine bodyPost_ret (v := .tuple #[.slice (some ⟨g', 0, none⟩) xs.length c', .agg #[.int .u8 1, .int .i64 (i : Int), .int .u64 y, .int .i64 1, .int .u64 (IntKind.u64.wrap (x + y))], .agg #[.int .u8 3, .int .i64 ((i % xs.length : Nat) : Int), .int .u64 x, .int .u64 (IntKind.u64.wrap (x + y)), .bool true]]) (by simp [results, Try.results28, go_sem, q0, q1, q2, q3, q4, z0, z1, z2, z3, z4]) rfl ⟨g', c', rfl, by omega, ?_, ?_⟩
      · refine own_partS HR.out.own (S := [b1, b2]) ?_ (by simp; omega)
        repeat (first | (with_reducible exact Part.refl _ _) | (with_reducible refine Part.drew ?_) | refine Part.set ?_ (by simp) _)
      · repeat (first | (with_reducible exact HR.out.low) | (with_reducible refine Below.drew ?_) | (with_reducible refine Below.drewNs ?_ _) | refine Below.setCell ?_ (by (try simp); omega) _)
theorem rs_read {w : World} {g0 c0 : Nat} {xs : List Int} (h : Lies w g0 xs) (hg : g0 < w.heap.size) (h0 : 0 < xs.length) (hl : xs.length ≤ 64) {i : Nat} {x : Int} (hx : xs[i % xs.length]? = some x) (_hi : i ≤ 9223372036854775807) (hux : U64 x) :
    Calls Try.prog 28 #[.slice (some ⟨g0, 0, none⟩) xs.length c0, .agg #[.int .u8 2, .int .i64 (i : Int), .int .u64 0, .int .i64 0, .int .u64 0]] w (RStepD w xs.length (xs.set (i % xs.length) x) [.int .u8 2, .int .i64 (i : Int), .int .u64 0, .int .i64 1, .int .u64 x] (.agg #[.int .u8 1, .int .i64 ((i % xs.length : Nat) : Int), .int .u64 x, .int .u64 x, .bool true])) := by
  have hm := tmod_nat i xs.length
  have hn : ¬ xs = [] := by rintro rfl; simp at h0
  have hn' : ¬ (xs.length : Int) = 0 := by omega
  have hlt : i % xs.length < xs.length := Nat.mod_lt _ h0
  have hw0 : IntKind.u64.wrap x = x := hux.wrap
  have H := Lib.hid h
  have HX := Lib.hid hx
  have HL := Lib.hid hl
  clear h hx
  go_enter Try.func28, Try.ntmps28
  go_upto_region 21 with (go_at_call 66; refine (copy_any (step_lies H.out hg) (step_lt hg) h0 (by have := HL.out; omega)).mono ?_; rintro e w1 ⟨g, c, rfl, hgl, hown, hb⟩; have hcp := step_copied [.int .u8 2, .int .i64 (i : Int), .int .u64 0, .int .i64 0, .int .u64 0] hgl hown hb; obtain ⟨hU, hRU, hRD, hO, hgg, hB⟩ := hcp; have HU := Lib.hid hU; have HRU := Lib.hid hRU; have HRD := Lib.hid hRD; have HOWN := Lib.hid hO; have HB := Lib.hid hB; have hl1 := (H.out.below hB hg) _ x HX.out; obtain ⟨u0, u1, u2, u3, u4⟩ := hU.five5; have uf := hU.free; have ult := hU.lt; have gc := own_cellS hO (show (u64s xs)[i % xs.length]? = some (.int .u64 x) from (by rw [u64s_get, HX.out]; rfl)); have gf := hO.frozenAt; have glt := World.block_lt_of_cell? _ _ gc; have hg1 : g0 < w1.heap.size := Nat.lt_of_lt_of_le hg hB.size; have hgne : w.heap.size ≠ g := (by omega); have hgne2 : g ≠ w.heap.size := (by omega); clear hgl hown hb hU hRU hRD hO hB)
  go_cut [3, 5, 6, 7, 8] (fun s3 s5 s6 s7 s8 wz => ∃ b0 b1 b2 b3 g c, s3 = .pointer (some ⟨b0, 0, none⟩) ∧ s5 = .pointer (some ⟨b1, 0, none⟩) ∧ s6 = .pointer (some ⟨b2, 0, none⟩) ∧ s7 = .slice (some ⟨g, 0, none⟩) xs.length c ∧ s8 = .pointer (some ⟨b3, 0, none⟩) ∧ StepR w xs.length b0 b1 b2 b3 g c [.int .u8 2, .int .i64 (i : Int), .int .u64 0, .int .i64 1, .int .u64 x] [.int .u8 1, .int .i64 ((i % xs.length : Nat) : Int), .int .u64 x, .int .u64 x, .bool true] (xs.set (i % xs.length) x) wz)
  case first =>
    go_wp2_with (fail)
    go_meet
    exact ⟨_, _, _, _, _, _, rfl, rfl, rfl, rfl, rfl, stepR_of HU.out HRU.out HRD.out HOWN.out hgg glt HB.out _ _ _ _ _⟩
  case rest =>
    obtain ⟨b0, b1, b2, b3, g', c', rfl, rfl, rfl, rfl, rfl, hR⟩ := hcut
    have HR := Lib.hid hR
    have x0 := hR.u.lt
    have x1 := hR.ru.lt
    have x2 := hR.rd.lt
    have x3 := hR.d.lt
    obtain ⟨gt0, gt1, gt2, gt3, gt4⟩ := hR.gt
    have y10 : ¬ b1 = b0 := by omega
    have y20 : ¬ b2 = b0 := by omega
    have y12 : ¬ b1 = b2 := by omega
    have y21 : ¬ b2 = b1 := by omega
    have y13 : ¬ b1 = b3 := by omega
    have y23 : ¬ b2 = b3 := by omega
    obtain ⟨v0, v1, v2, v3, v4⟩ := hR.u.five5
    obtain ⟨q0, q1, q2, q3, q4⟩ := hR.ru.five5
    obtain ⟨z0, z1, z2, z3, z4⟩ := hR.rd.five5
    obtain ⟨e0, e1, e2, e3, e4⟩ := hR.d.five5
    have qf := hR.ru.free
    have zf := hR.rd.free
    clear hR
    go_wp2_with (fail)
    go_region_held3 (fun w' => w'.cell? ⟨b0, 0, none⟩ = some (.int .u8 2) ∧ w'.cell? ⟨b0, 1, none⟩ = some (.int .i64 (i : Int)) ∧ w'.cell? ⟨b0, 2, none⟩ = some (.int .u64 0) ∧ w'.cell? ⟨b0, 3, none⟩ = some (.int .i64 1) ∧ w'.cell? ⟨b0, 4, none⟩ = some (.int .u64 x) ∧ w'.cell? ⟨b3, 0, none⟩ = some (.int .u8 1) ∧ w'.cell? ⟨b3, 1, none⟩ = some (.int .i64 ((i % xs.length : Nat) : Int)) ∧ w'.cell? ⟨b3, 2, none⟩ = some (.int .u64 x) ∧ w'.cell? ⟨b3, 3, none⟩ = some (.int .u64 x) ∧ w'.cell? ⟨b3, 4, none⟩ = some (.bool true))
      (first | (with_reducible exact ⟨v0, v1, v2, v3, v4, e0, e1, e2, e3, e4⟩) | go_keep)
      (first | fail)
    all_goals
      go_wp2_with fail
      refine bodyPost_ret (v := .tuple #[.slice (some ⟨g', 0, none⟩) xs.length c', .agg #[.int .u8 2, .int .i64 (i : Int), .int .u64 0, .int .i64 1, .int .u64 x], .agg #[.int .u8 1, .int .i64 ((i % xs.length : Nat) : Int), .int .u64 x, .int .u64 x, .bool true]]) (by simp [results, Try.results28, go_sem, q0, q1, q2, q3, q4, z0, z1, z2, z3, z4]) rfl ⟨g', c', rfl, by omega, ?_, ?_⟩
      · refine own_partS HR.out.own (S := [b1, b2]) ?_ (by simp; omega)
        repeat (first | (with_reducible exact Part.refl _ _) | (with_reducible refine Part.drew ?_) | refine Part.set ?_ (by simp) _)
      · repeat (first | (with_reducible exact HR.out.low) | (with_reducible refine Below.drew ?_) | (with_reducible refine Below.drewNs ?_ _) | refine Below.setCell ?_ (by (try simp); omega) _)
theorem rs_sum {w : World} {g0 c0 : Nat} {xs : List Int} (h : Lies w g0 xs) (hg : g0 < w.heap.size) (h0 : 0 < xs.length) (hl : xs.length ≤ 64) {t : Nat} {s x : Int} (hx : xs[t]? = some x) :
    Calls Try.prog 28 #[.slice (some ⟨g0, 0, none⟩) xs.length c0, .agg #[.int .u8 3, .int .i64 0, .int .u64 0, .int .i64 (t : Int), .int .u64 s]] w (RStepD w xs.length (xs.set (t) x) [.int .u8 3, .int .i64 0, .int .u64 0, .int .i64 ((t : Int) + 1), .int .u64 (IntKind.u64.wrap (s + x))] (.agg #[.int .u8 1, .int .i64 (t : Int), .int .u64 x, .int .u64 x, .bool true])) := by
  have hlt : t < xs.length := (List.getElem?_eq_some_iff.1 hx).1
  have hlt2 : (t : Int) < (xs.length : Int) := by omega
  have H := Lib.hid h
  have HX := Lib.hid hx
  have HL := Lib.hid hl
  clear h hx
  go_enter Try.func28, Try.ntmps28
  go_upto_region 21 with (go_at_call 66; refine (copy_any (step_lies H.out hg) (step_lt hg) h0 (by have := HL.out; omega)).mono ?_; rintro e w1 ⟨g, c, rfl, hgl, hown, hb⟩; have hcp := step_copied [.int .u8 3, .int .i64 0, .int .u64 0, .int .i64 (t : Int), .int .u64 s] hgl hown hb; obtain ⟨hU, hRU, hRD, hO, hgg, hB⟩ := hcp; have HU := Lib.hid hU; have HRU := Lib.hid hRU; have HRD := Lib.hid hRD; have HOWN := Lib.hid hO; have HB := Lib.hid hB; have hl1 := (H.out.below hB hg) _ x HX.out; obtain ⟨u0, u1, u2, u3, u4⟩ := hU.five5; have uf := hU.free; have ult := hU.lt; have gc := own_cellS hO (show (u64s xs)[t]? = some (.int .u64 x) from (by rw [u64s_get, HX.out]; rfl)); have gf := hO.frozenAt; have glt := World.block_lt_of_cell? _ _ gc; have hg1 : g0 < w1.heap.size := Nat.lt_of_lt_of_le hg hB.size; have hgne : w.heap.size ≠ g := (by omega); have hgne2 : g ≠ w.heap.size := (by omega); clear hgl hown hb hU hRU hRD hO hB)
  go_cut [3, 5, 6, 7, 8] (fun s3 s5 s6 s7 s8 wz => ∃ b0 b1 b2 b3 g c, s3 = .pointer (some ⟨b0, 0, none⟩) ∧ s5 = .pointer (some ⟨b1, 0, none⟩) ∧ s6 = .pointer (some ⟨b2, 0, none⟩) ∧ s7 = .slice (some ⟨g, 0, none⟩) xs.length c ∧ s8 = .pointer (some ⟨b3, 0, none⟩) ∧ StepR w xs.length b0 b1 b2 b3 g c [.int .u8 3, .int .i64 0, .int .u64 0, .int .i64 ((t : Int) + 1), .int .u64 (IntKind.u64.wrap (s + x))] [.int .u8 1, .int .i64 (t : Int), .int .u64 x, .int .u64 x, .bool true] (xs.set (t) x) wz)
  case first =>
    go_wp2_with (fail)
    go_meet
    exact ⟨_, _, _, _, _, _, rfl, rfl, rfl, rfl, rfl, stepR_of HU.out HRU.out HRD.out HOWN.out hgg glt HB.out _ _ _ _ _⟩
  case rest =>
    obtain ⟨b0, b1, b2, b3, g', c', rfl, rfl, rfl, rfl, rfl, hR⟩ := hcut
    have HR := Lib.hid hR
    have x0 := hR.u.lt
    have x1 := hR.ru.lt
    have x2 := hR.rd.lt
    have x3 := hR.d.lt
    obtain ⟨gt0, gt1, gt2, gt3, gt4⟩ := hR.gt
    have y10 : ¬ b1 = b0 := by omega
    have y20 : ¬ b2 = b0 := by omega
    have y12 : ¬ b1 = b2 := by omega
    have y21 : ¬ b2 = b1 := by omega
    have y13 : ¬ b1 = b3 := by omega
    have y23 : ¬ b2 = b3 := by omega
    obtain ⟨v0, v1, v2, v3, v4⟩ := hR.u.five5
    obtain ⟨q0, q1, q2, q3, q4⟩ := hR.ru.five5
    obtain ⟨z0, z1, z2, z3, z4⟩ := hR.rd.five5
    obtain ⟨e0, e1, e2, e3, e4⟩ := hR.d.five5
    have qf := hR.ru.free
    have zf := hR.rd.free
    clear hR
    go_wp2_with (fail)
    go_region_held3 (fun w' => w'.cell? ⟨b0, 0, none⟩ = some (.int .u8 3) ∧ w'.cell? ⟨b0, 1, none⟩ = some (.int .i64 0) ∧ w'.cell? ⟨b0, 2, none⟩ = some (.int .u64 0) ∧ w'.cell? ⟨b0, 3, none⟩ = some (.int .i64 ((t : Int) + 1)) ∧ w'.cell? ⟨b0, 4, none⟩ = some (.int .u64 (IntKind.u64.wrap (s + x))) ∧ w'.cell? ⟨b3, 0, none⟩ = some (.int .u8 1) ∧ w'.cell? ⟨b3, 1, none⟩ = some (.int .i64 (t : Int)) ∧ w'.cell? ⟨b3, 2, none⟩ = some (.int .u64 x) ∧ w'.cell? ⟨b3, 3, none⟩ = some (.int .u64 x) ∧ w'.cell? ⟨b3, 4, none⟩ = some (.bool true))
      (first | (with_reducible exact ⟨v0, v1, v2, v3, v4, e0, e1, e2, e3, e4⟩) | go_keep)
      (first | fail)
    all_goals
      go_wp2_with fail
      refine bodyPost_ret (v := .tuple #[.slice (some ⟨g', 0, none⟩) xs.length c', .agg #[.int .u8 3, .int .i64 0, .int .u64 0, .int .i64 ((t : Int) + 1), .int .u64 (IntKind.u64.wrap (s + x))], .agg #[.int .u8 1, .int .i64 (t : Int), .int .u64 x, .int .u64 x, .bool true]]) (by simp [results, Try.results28, go_sem, q0, q1, q2, q3, q4, z0, z1, z2, z3, z4]) rfl ⟨g', c', rfl, by omega, ?_, ?_⟩
      · refine own_partS HR.out.own (S := [b1, b2]) ?_ (by simp; omega)
        repeat (first | (with_reducible exact Part.refl _ _) | (with_reducible refine Part.drew ?_) | refine Part.set ?_ (by simp) _)
      · repeat (first | (with_reducible exact HR.out.low) | (with_reducible refine Below.drew ?_) | (with_reducible refine Below.drewNs ?_ _) | refine Below.setCell ?_ (by (try simp); omega) _)
theorem rs_take {w : World} {g0 c0 : Nat} {xs : List Int} (h : Lies w g0 xs) (hg : g0 < w.heap.size) (h0 : 0 < xs.length) (hl : xs.length ≤ 64) {t : Nat} {s x : Int} (hx : xs[t]? = some x) :
    Calls Try.prog 28 #[.slice (some ⟨g0, 0, none⟩) xs.length c0, .agg #[.int .u8 4, .int .i64 0, .int .u64 0, .int .i64 (t : Int), .int .u64 s]] w (RStepD w xs.length (xs.set (t) 0) [.int .u8 4, .int .i64 0, .int .u64 0, .int .i64 ((t : Int) + 1), .int .u64 (IntKind.u64.wrap (s + x))] (.agg #[.int .u8 4, .int .i64 (t : Int), .int .u64 x, .int .u64 0, .bool true])) := by
  have hlt : t < xs.length := (List.getElem?_eq_some_iff.1 hx).1
  have hlt2 : (t : Int) < (xs.length : Int) := by omega
  have H := Lib.hid h
  have HX := Lib.hid hx
  have HL := Lib.hid hl
  clear h hx
  go_enter Try.func28, Try.ntmps28
  go_upto_region 21 with (go_at_call 66; refine (copy_any (step_lies H.out hg) (step_lt hg) h0 (by have := HL.out; omega)).mono ?_; rintro e w1 ⟨g, c, rfl, hgl, hown, hb⟩; have hcp := step_copied [.int .u8 4, .int .i64 0, .int .u64 0, .int .i64 (t : Int), .int .u64 s] hgl hown hb; obtain ⟨hU, hRU, hRD, hO, hgg, hB⟩ := hcp; have HU := Lib.hid hU; have HRU := Lib.hid hRU; have HRD := Lib.hid hRD; have HOWN := Lib.hid hO; have HB := Lib.hid hB; have hl1 := (H.out.below hB hg) _ x HX.out; obtain ⟨u0, u1, u2, u3, u4⟩ := hU.five5; have uf := hU.free; have ult := hU.lt; have gc := own_cellS hO (show (u64s xs)[t]? = some (.int .u64 x) from (by rw [u64s_get, HX.out]; rfl)); have gf := hO.frozenAt; have glt := World.block_lt_of_cell? _ _ gc; have hg1 : g0 < w1.heap.size := Nat.lt_of_lt_of_le hg hB.size; have hgne : w.heap.size ≠ g := (by omega); have hgne2 : g ≠ w.heap.size := (by omega); clear hgl hown hb hU hRU hRD hO hB)
  go_cut [3, 5, 6, 7, 8] (fun s3 s5 s6 s7 s8 wz => ∃ b0 b1 b2 b3 g c, s3 = .pointer (some ⟨b0, 0, none⟩) ∧ s5 = .pointer (some ⟨b1, 0, none⟩) ∧ s6 = .pointer (some ⟨b2, 0, none⟩) ∧ s7 = .slice (some ⟨g, 0, none⟩) xs.length c ∧ s8 = .pointer (some ⟨b3, 0, none⟩) ∧ StepR w xs.length b0 b1 b2 b3 g c [.int .u8 4, .int .i64 0, .int .u64 0, .int .i64 ((t : Int) + 1), .int .u64 (IntKind.u64.wrap (s + x))] [.int .u8 4, .int .i64 (t : Int), .int .u64 x, .int .u64 0, .bool true] (xs.set (t) 0) wz)
  case first =>
    go_wp2_with (fail)
    go_meet
    exact ⟨_, _, _, _, _, _, rfl, rfl, rfl, rfl, rfl, stepR_of HU.out HRU.out HRD.out HOWN.out hgg glt HB.out _ _ _ _ _⟩
  case rest =>
    obtain ⟨b0, b1, b2, b3, g', c', rfl, rfl, rfl, rfl, rfl, hR⟩ := hcut
    have HR := Lib.hid hR
    have x0 := hR.u.lt
    have x1 := hR.ru.lt
    have x2 := hR.rd.lt
    have x3 := hR.d.lt
    obtain ⟨gt0, gt1, gt2, gt3, gt4⟩ := hR.gt
    have y10 : ¬ b1 = b0 := by omega
    have y20 : ¬ b2 = b0 := by omega
    have y12 : ¬ b1 = b2 := by omega
    have y21 : ¬ b2 = b1 := by omega
    have y13 : ¬ b1 = b3 := by omega
    have y23 : ¬ b2 = b3 := by omega
    obtain ⟨v0, v1, v2, v3, v4⟩ := hR.u.five5
    obtain ⟨q0, q1, q2, q3, q4⟩ := hR.ru.five5
    obtain ⟨z0, z1, z2, z3, z4⟩ := hR.rd.five5
    obtain ⟨e0, e1, e2, e3, e4⟩ := hR.d.five5
    have qf := hR.ru.free
    have zf := hR.rd.free
    clear hR
    go_wp2_with (fail)
    go_region_held3 (fun w' => w'.cell? ⟨b0, 0, none⟩ = some (.int .u8 4) ∧ w'.cell? ⟨b0, 1, none⟩ = some (.int .i64 0) ∧ w'.cell? ⟨b0, 2, none⟩ = some (.int .u64 0) ∧ w'.cell? ⟨b0, 3, none⟩ = some (.int .i64 ((t : Int) + 1)) ∧ w'.cell? ⟨b0, 4, none⟩ = some (.int .u64 (IntKind.u64.wrap (s + x))) ∧ w'.cell? ⟨b3, 0, none⟩ = some (.int .u8 4) ∧ w'.cell? ⟨b3, 1, none⟩ = some (.int .i64 (t : Int)) ∧ w'.cell? ⟨b3, 2, none⟩ = some (.int .u64 x) ∧ w'.cell? ⟨b3, 3, none⟩ = some (.int .u64 0) ∧ w'.cell? ⟨b3, 4, none⟩ = some (.bool true))
      (first | (with_reducible exact ⟨v0, v1, v2, v3, v4, e0, e1, e2, e3, e4⟩) | go_keep)
      (first | fail)
    all_goals
      go_wp2_with fail
      refine bodyPost_ret (v := .tuple #[.slice (some ⟨g', 0, none⟩) xs.length c', .agg #[.int .u8 4, .int .i64 0, .int .u64 0, .int .i64 ((t : Int) + 1), .int .u64 (IntKind.u64.wrap (s + x))], .agg #[.int .u8 4, .int .i64 (t : Int), .int .u64 x, .int .u64 0, .bool true]]) (by simp [results, Try.results28, go_sem, q0, q1, q2, q3, q4, z0, z1, z2, z3, z4]) rfl ⟨g', c', rfl, by omega, ?_, ?_⟩
      · refine own_partS HR.out.own (S := [b1, b2]) ?_ (by simp; omega)
        repeat (first | (with_reducible exact Part.refl _ _) | (with_reducible refine Part.drew ?_) | refine Part.set ?_ (by simp) _)
      · repeat (first | (with_reducible exact HR.out.low) | (with_reducible refine Below.drew ?_) | (with_reducible refine Below.drewNs ?_ _) | refine Below.setCell ?_ (by (try simp); omega) _)
end Go.Proofs.Ytcocegneegjcpaa
