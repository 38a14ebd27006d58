/- THE WALKS of the document's own answer: Step. -/
import Derived.Test.YtcocegneegjcpaaTt
import Derived.Deep.Cut
import Derived.Deep.CutRange
import Derived.Deep.DeepCutAuto
import Derived.Deep.RegionHeld3
namespace Go.Proofs.Ytcocegneegjcpaa
open Go Go.RowKit

theorem Row.new3 (w : World) (o o' : Obj) (t : TypeId) (l : List Value) {n : Nat} (hn : n = w.heap.size + 2) : Row (((w.alloc o).alloc o').alloc (.cells l.toArray t)) n t l := by
  subst hn
  have h := Row.new ((w.alloc o).alloc o') t l
  rwa [World.size_alloc, World.size_alloc] at h
theorem Below.drewN' {B : Nat} {a w : World} (h : Below B a w) (n : Nat) : Below B a (w.drewN n) := ⟨h.os, h.tape, h.output, h.size, h.block⟩
/-- behind the first rows: the operation lies in its box; the results' places are empty -/
structure StartU (w : World) (u : List Value) (wx : World) : Prop where
  u : Row wx w.heap.size 102 u
  ru : Row wx (w.heap.size + 1) 102 [.int .u8 0, .int .i64 0, .int .i64 0, .bool false, .int .i64 0, .bool false, .bool false, .int .i64 0, .int .i64 0]
  rd : Row wx (w.heap.size + 2) 45 [.int .u8 0, .int .i64 0, .int .u64 0, .int .u64 0, .bool false]
  low : Below w.heap.size w wx
/-- ahead of the return: what was done lies in the block g -/
structure RetU (w : World) (b0 b1 b2 g : Nat) (u did : List Value) (wx : World) : Prop where
  u : Row wx b0 102 u
  ru : Row wx b1 102 [.int .u8 0, .int .i64 0, .int .i64 0, .bool false, .int .i64 0, .bool false, .bool false, .int .i64 0, .int .i64 0]
  rd : Row wx b2 45 [.int .u8 0, .int .i64 0, .int .u64 0, .int .u64 0, .bool false]
  did : Row wx g 45 did
  gt : w.heap.size ≤ b0 ∧ b0 < b1 ∧ b1 < b2 ∧ b2 < g
  low : Below w.heap.size w wx
theorem StartU.ne {w wx : World} {u : List Value} (h : StartU w u wx) : ¬ w.heap.size = wx.heap.size ∧ ¬ wx.heap.size = w.heap.size ∧ w.heap.size + 2 < wx.heap.size := by
  have := h.rd.lt
  omega
theorem Row.nine {w : World} {b : Nat} {t : TypeId} {x0 x1 x2 x3 x4 x5 x6 x7 x8 : Value} (h : Row w b t [x0, x1, x2, x3, x4, x5, x6, x7, x8]) :
    w.cell? ⟨b, 0, none⟩ = some x0 ∧ w.cell? ⟨b, 1, none⟩ = some x1 ∧ w.cell? ⟨b, 2, none⟩ = some x2 ∧ w.cell? ⟨b, 3, none⟩ = some x3 ∧ w.cell? ⟨b, 4, none⟩ = some x4 ∧ w.cell? ⟨b, 5, none⟩ = some x5 ∧ w.cell? ⟨b, 6, none⟩ = some x6 ∧ w.cell? ⟨b, 7, none⟩ = some x7 ∧ w.cell? ⟨b, 8, none⟩ = some x8 :=
  ⟨h.cell 0, h.cell 1, h.cell 2, h.cell 3, h.cell 4, h.cell 5, h.cell 6, h.cell 7, h.cell 8⟩
theorem Row.last {w : World} {t : TypeId} {l : List Value} {n : Nat} (hn : n = w.heap.size) : Row (w.alloc (.cells l.toArray t)) n t l := hn ▸ Row.new w t l
theorem Row.of_eq' {w : World} {b : Nat} {t : TypeId} {l l' : List Value} (h : Row w b t l) (e : l = l') : Row w b t l' := e ▸ h

set_option maxRecDepth 100000
set_option maxHeartbeats 3200000
theorem rstep_hit {ev bu T t n s m ms P D wait left : Int} {ok : Bool} (w : World) (hf : fitsB ev bu = true) (T0 : 0 ≤ T) (T1 : T ≤ 3458764513820540928) (s0 : 0 ≤ s) (s1 : s ≤ 3458764513820540928) (t0 : 0 ≤ t) (t1 : t ≤ 2305843009213693952) (hm : max T t = m) (hms : max s t = ms) (hP : n * ev = P) (P0 : 0 ≤ P) (P1 : P ≤ 1152921504606846976) (hD : bu * ev = D) (D0 : 0 ≤ D) (D1 : D ≤ 1152921504606846976) (hs : T = s) :
    Calls Try.prog 44 #[.int .i64 ev, .int .i64 bu, .int .i64 T, .agg #[.int .u8 1, .int .i64 t, .int .i64 n, .bool true, .int .i64 s, .bool false, .bool ok, .int .i64 (wait), .int .i64 (left)]] w fun e w' => e = .returned (.tuple #[.int .i64 (ms + P), .agg #[.int .u8 1, .int .i64 t, .int .i64 n, .bool false, .int .i64 s, .bool true, .bool true, .int .i64 (0), .int .i64 (0)], .agg #[.int .u8 5, .int .i64 0, .int .u64 T, .int .u64 (ms + P), .bool true]]) ∧ Below w.heap.size w w' := by
  subst hs
  have hDD := And.intro D0 (And.intro D1 hD)
  clear hDD
  have HF := Lib.hid hf
  obtain ⟨a, b, c, d⟩ := fits_bounds hf
  have HM := Lib.hid hm
  have HMS := Lib.hid hms
  have m0 : 0 ≤ m := by omega
  have m1 : m ≤ 3458764513820540928 := by omega
  have g0 : 0 ≤ ms := by omega
  have g1 : ms ≤ 3458764513820540928 := by omega
  clear hf hm hms
  go_enter Try.func44, Try.ntmps44
  go_upto_region 1 with (fail)
  go_cut [11] (fun s11 wx => s11 = .int .i64 (ms + P) ∧ StartU w [.int .u8 1, .int .i64 t, .int .i64 n, .bool true, .int .i64 T, .bool false, .bool ok, .int .i64 (wait), .int .i64 (left)] wx)
  case first =>
    go_quiet ((go_at_call 78; exact Calls.quiet_of_same (rgreater_at HMS.out _)))
    go_wp2_with fail
    go_meet
    exact ⟨rfl, Row.drewN (((Row.new w _ [.int .u8 1, .int .i64 t, .int .i64 n, .bool true, .int .i64 T, .bool false, .bool ok, .int .i64 (wait), .int .i64 (left)]).alloc _).alloc _) _, Row.drewN ((Row.new2 w _ _ [.int .u8 0, .int .i64 0, .int .i64 0, .bool false, .int .i64 0, .bool false, .bool false, .int .i64 0, .int .i64 0] rfl).alloc _) _, Row.drewN (Row.new3 w _ _ _ [.int .u8 0, .int .i64 0, .int .u64 0, .int .u64 0, .bool false] rfl) _, Below.drewN' ((((Below.refl _ _).alloc (Nat.le_refl _) _).alloc (by simp) _).alloc (by simp; omega) _) _⟩
  case rest =>
    obtain ⟨rfl, hcut⟩ := hcut
    have HS := Lib.hid hcut
    obtain ⟨u0, u1, u2, u3, u4, u5, u6, u7, u8⟩ := hcut.u.nine
    have uf := hcut.u.free
    have ult := hcut.u.lt
    have rlt := hcut.rd.lt
    obtain ⟨e1, e2, e3⟩ := hcut.ne
    clear hcut
    go_upto_region 9 with (fail)
    go_cut [7, 9, 10, 12] (fun s7 s9 s10 s12 wz => ∃ b0 b1 b2 g, s7 = .pointer (some ⟨b0, 0, none⟩) ∧ s9 = .pointer (some ⟨b1, 0, none⟩) ∧ s10 = .pointer (some ⟨b2, 0, none⟩) ∧ s12 = .pointer (some ⟨g, 0, none⟩) ∧ RetU w b0 b1 b2 g [.int .u8 1, .int .i64 t, .int .i64 n, .bool false, .int .i64 T, .bool true, .bool true, .int .i64 (0), .int .i64 (0)] [.int .u8 5, .int .i64 0, .int .u64 T, .int .u64 (ms + P), .bool true] wz)
    case first =>
      go_wp2_with (fail)
      go_meet
      exact ⟨_, _, _, _, rfl, rfl, rfl, rfl, Row.of_eq' ((((((HS.out.u.set 3 _).set 5 _).set 6 _).set 7 _).set 8 _).alloc _) rfl, ((((((HS.out.ru.far (by (try simp); (try omega)) _).far (by (try simp); (try omega)) _).far (by (try simp); (try omega)) _).far (by (try simp); (try omega)) _).far (by (try simp); (try omega)) _).alloc _), ((((((HS.out.rd.far (by (try simp); (try omega)) _).far (by (try simp); (try omega)) _).far (by (try simp); (try omega)) _).far (by (try simp); (try omega)) _).far (by (try simp); (try omega)) _).alloc _), (Row.last (l := [.int .u8 5, .int .i64 0, .int .u64 T, .int .u64 (ms + P), .bool true]) (by simp)), (by (try simp); omega), ((((((HS.out.low.setCell (by (try simp); (try omega)) _).setCell (by (try simp); (try omega)) _).setCell (by (try simp); (try omega)) _).setCell (by (try simp); (try omega)) _).setCell (by (try simp); (try omega)) _).alloc (by have := HS.out.low.size; (try simp); (try omega)) _)⟩
    case rest =>
      obtain ⟨b0, b1, b2, g, rfl, rfl, rfl, rfl, hR⟩ := hcut
      have HU := Lib.hid hR.low
      have x0 := hR.u.lt
      have x1 := hR.ru.lt
      have x2 := hR.rd.lt
      have x3 := hR.did.lt
      obtain ⟨gt0, gt1, gt2, gt3⟩ := hR.gt
      have y01 : ¬ b0 = b1 := by omega
      have y02 : ¬ b0 = b2 := by omega
      have y03 : ¬ b0 = g := by omega
      have y10 : ¬ b1 = b0 := by omega
      have y12 : ¬ b1 = b2 := by omega
      have y13 : ¬ b1 = g := by omega
      have y20 : ¬ b2 = b0 := by omega
      have y21 : ¬ b2 = b1 := by omega
      have y23 : ¬ b2 = g := by omega
      have y30 : ¬ g = b0 := by omega
      have y31 : ¬ g = b1 := by omega
      have y32 : ¬ g = b2 := by omega
      obtain ⟨u0, u1, u2, u3, u4, u5, u6, u7, u8⟩ := hR.u.nine
      obtain ⟨q0, q1, q2, q3, q4, q5, q6, q7, q8⟩ := hR.ru.nine
      obtain ⟨z0, z1, z2, z3, z4⟩ := hR.rd.five
      obtain ⟨d0, d1, d2, d3, d4⟩ := hR.did.five
      have uf := hR.u.free
      have qf := hR.ru.free
      have zf := hR.rd.free
      have df := hR.did.free
      clear hR
      go_wp2
      go_region_held3 (fun w' => w'.cell? ⟨b0, 0, none⟩ = some (.int .u8 1) ∧ w'.cell? ⟨b0, 1, none⟩ = some (.int .i64 t) ∧ w'.cell? ⟨b0, 2, none⟩ = some (.int .i64 n) ∧ w'.cell? ⟨b0, 3, none⟩ = some (.bool false) ∧ w'.cell? ⟨b0, 4, none⟩ = some (.int .i64 T) ∧ w'.cell? ⟨b0, 5, none⟩ = some (.bool true) ∧ w'.cell? ⟨b0, 6, none⟩ = some (.bool true) ∧ w'.cell? ⟨b0, 7, none⟩ = some (.int .i64 (0)) ∧ w'.cell? ⟨b0, 8, none⟩ = some (.int .i64 (0)) ∧ w'.cell? ⟨g, 0, none⟩ = some (.int .u8 5) ∧ w'.cell? ⟨g, 1, none⟩ = some (.int .i64 0) ∧ w'.cell? ⟨g, 2, none⟩ = some (.int .u64 T) ∧ w'.cell? ⟨g, 3, none⟩ = some (.int .u64 (ms + P)) ∧ w'.cell? ⟨g, 4, none⟩ = some (.bool true))
        (first | (with_reducible exact ⟨u0, u1, u2, u3, u4, u5, u6, u7, u8, d0, d1, d2, d3, d4⟩) | go_keep)
        (first | fail)
      all_goals
        go_wp2_with fail
        refine bodyPost_ret (v := .tuple #[.int .i64 (ms + P), .agg #[.int .u8 1, .int .i64 t, .int .i64 n, .bool false, .int .i64 T, .bool true, .bool true, .int .i64 (0), .int .i64 (0)], .agg #[.int .u8 5, .int .i64 0, .int .u64 T, .int .u64 (ms + P), .bool true]]) (by simp [results, Try.results44, go_sem, q0, q1, q2, q3, q4, q5, q6, q7, q8, z0, z1, z2, z3, z4]) rfl ⟨rfl, ?_⟩
        repeat (first | (with_reducible exact HU.out) | (with_reducible refine Below.drew ?_) | (with_reducible refine Below.drewN' ?_ _) | refine Below.setCell ?_ (by (try simp); omega) _)
end Go.Proofs.Ytcocegneegjcpaa
