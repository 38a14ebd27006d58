/- THE WALKS of the document's own answer for gauges: Step. -/
import Derived.Test.YtcocegneegjcpaaGq
import Derived.Deep.Cut
import Derived.Deep.CutRange
import Derived.Deep.DeepCutAuto
import Derived.Deep.RegionHeld3
namespace Go.Proofs.Ytcocegneegjcpaa
open Go Go.RowKit

theorem Row.new3g (w : World) (o o' : Obj) (t : TypeId) (l : List Value) {n : Nat} (hn : n = w.heap.size + 2) : Row (((w.alloc o).alloc o').alloc (.cells l.toArray t)) n t l := by
  subst hn
  have h := Row.new ((w.alloc o).alloc o') t l
  rwa [World.size_alloc, World.size_alloc] at h
theorem Below.drewNg {B : Nat} {a w : World} (h : Below B a w) (n : Nat) : Below B a (w.drewN n) := ⟨h.os, h.tape, h.output, h.size, h.block⟩
/-- in Step: the operation lies in its box; the results' places are empty -/
structure StartP (w : World) (b0 b1 b2 : Nat) (u : List Value) (wx : World) : Prop where
  u : Row wx b0 42 u
  ru : Row wx b1 42 [.int .u8 0, .float .f64 0, .bool false, .int .u64 0, .bool false, .float .f64 0]
  rd : Row wx b2 45 [.int .u8 0, .int .i64 0, .int .u64 0, .int .u64 0, .bool false]
  gt : w.heap.size ≤ b0 ∧ b0 < b1 ∧ b1 < b2
  low : Below w.heap.size w wx
theorem StartP.on {w wx w1 : World} {b0 b1 b2 : Nat} {u : List Value} (h : StartP w b0 b1 b2 u wx) (hb : Below wx.heap.size wx w1) : StartP w b0 b1 b2 u w1 :=
  ⟨h.u.below hb h.u.lt, h.ru.below hb h.ru.lt, h.rd.below hb h.rd.lt, h.gt, h.low.trans (hb.mono h.low.size)⟩
theorem StartP.put {w wx : World} {b0 b1 b2 : Nat} {u : List Value} (h : StartP w b0 b1 b2 u wx) (j : Nat) (v : Value) : StartP w b0 b1 b2 (u.set j v) (wx.setCell ⟨b0, j, none⟩ v) :=
  ⟨h.u.set j v, h.ru.far (by have := h.gt; show b0 ≠ b1; omega) v, h.rd.far (by have := h.gt; show b0 ≠ b2; omega) v, h.gt, h.low.setCell (by simpa using h.gt.1) v⟩
theorem StartP.drew {w wx : World} {b0 b1 b2 : Nat} {u : List Value} (h : StartP w b0 b1 b2 u wx) (n : Nat) : StartP w b0 b1 b2 u (wx.drewN n) :=
  ⟨Row.drewN h.u n, Row.drewN h.ru n, Row.drewN h.rd n, h.gt, Below.drewNg h.low n⟩
theorem Row.sixg {w : World} {b : Nat} {t : TypeId} {x0 x1 x2 x3 x4 x5 : Value} (h : Row w b t [x0, x1, x2, x3, x4, x5]) :
    w.cell? ⟨b, 0, none⟩ = some x0 ∧ w.cell? ⟨b, 1, none⟩ = some x1 ∧ w.cell? ⟨b, 2, none⟩ = some x2 ∧ w.cell? ⟨b, 3, none⟩ = some x3 ∧ w.cell? ⟨b, 4, none⟩ = some x4 ∧ w.cell? ⟨b, 5, none⟩ = some x5 :=
  ⟨h.cell 0, h.cell 1, h.cell 2, h.cell 3, h.cell 4, h.cell 5⟩
theorem Row.fiveg {w : World} {b : Nat} {t : TypeId} {x0 x1 x2 x3 x4 : Value} (h : Row w b t [x0, x1, x2, x3, x4]) :
    w.cell? ⟨b, 0, none⟩ = some x0 ∧ w.cell? ⟨b, 1, none⟩ = some x1 ∧ w.cell? ⟨b, 2, none⟩ = some x2 ∧ w.cell? ⟨b, 3, none⟩ = some x3 ∧ w.cell? ⟨b, 4, none⟩ = some x4 :=
  ⟨h.cell 0, h.cell 1, h.cell 2, h.cell 3, h.cell 4⟩
theorem startP_new (w : World) (u : List Value) : StartP w w.heap.size (w.heap.size + 1) (w.heap.size + 1 + 1) u (((w.alloc (.cells u.toArray 42)).alloc (.cells #[.int .u8 0, .float .f64 0, .bool false, .int .u64 0, .bool false, .float .f64 0] 42)).alloc (.cells #[.int .u8 0, .int .i64 0, .int .u64 0, .int .u64 0, .bool false] 45)) :=
  ⟨((Row.new w _ u).alloc _).alloc _, (Row.new2 w _ _ [.int .u8 0, .float .f64 0, .bool false, .int .u64 0, .bool false, .float .f64 0] rfl).alloc _, Row.new3g w _ _ _ [.int .u8 0, .int .i64 0, .int .u64 0, .int .u64 0, .bool false] rfl, by omega, (((Below.refl _ _).alloc (Nat.le_refl _) _).alloc (by simp) _).alloc (by simp; omega) _⟩
set_option maxRecDepth 100000
set_option maxHeartbeats 3200000
theorem gstep_set {T x a : Nat} {l : Bool} {s : Int} (lx : B64 x) (w : World) :
    Calls Try.prog 13 #[.int .u64 (T : Nat), .agg #[.int .u8 2, .float .f64 x, .bool l, .int .u64 s, .bool false, .float .f64 a]] w fun e w' => e = .returned (.tuple #[.int .u64 ((GM.bitsOf x : Nat)), .agg #[.int .u8 2, .float .f64 x, .bool l, .int .u64 s, .bool true, .float .f64 x], .agg #[.int .u8 2, .int .i64 0, .int .u64 ((T : Nat)), .int .u64 ((GM.bitsOf x : Nat)), .bool true]]) ∧ Below w.heap.size w w' := by
  have LX := Lib.hid lx
  have st := run_store_float
  clear lx
  go_enter Try.func13, Try.ntmps13
  go_upto_region 1 with (fail)
  go_cut [3, 5, 6, 13] (fun s3 s5 s6 s13 wz => ∃ b0 b1 b2, s3 = .pointer (some ⟨b0, 0, none⟩) ∧ s5 = .pointer (some ⟨b1, 0, none⟩) ∧ s6 = .pointer (some ⟨b2, 0, none⟩) ∧ s13 = .bool false ∧ StartP w b0 b1 b2 [.int .u8 2, .float .f64 x, .bool l, .int .u64 s, .bool false, .float .f64 a] wz)
  case first =>
    go_wp2_with (fail)
    go_meet
    exact ⟨_, _, _, rfl, rfl, rfl, rfl, startP_new w [.int .u8 2, .float .f64 x, .bool l, .int .u64 s, .bool false, .float .f64 a]⟩
  case rest =>
    obtain ⟨c0, c1, c2, rfl, rfl, rfl, rfl, hS⟩ := hcut
    have HS := Lib.hid hS
    obtain ⟨u0, u1, u2, u3, u4, u5⟩ := hS.u.sixg
    have uf := hS.u.free
    have ult := hS.u.lt
    clear hS
    go_upto_region 5 with (fail)
    go_cut [3, 5, 6] (fun s3 s5 s6 wz => ∃ b0 b1 b2, s3 = .pointer (some ⟨b0, 0, none⟩) ∧ s5 = .pointer (some ⟨b1, 0, none⟩) ∧ s6 = .pointer (some ⟨b2, 0, none⟩) ∧ StartP w b0 b1 b2 [.int .u8 2, .float .f64 x, .bool l, .int .u64 s, .bool true, .float .f64 x] wz)
    case first =>
      go_wp2_with (fail)
      go_meet
      exact ⟨_, _, _, rfl, rfl, rfl, (HS.out.put 4 _).put 5 _⟩
    case rest =>
      obtain ⟨b0, b1, b2, rfl, rfl, rfl, hR⟩ := hcut
      have HU := Lib.hid hR.low
      have x0 := hR.u.lt
      have x1 := hR.ru.lt
      have x2 := hR.rd.lt
      obtain ⟨gt0, gt1, gt2⟩ := hR.gt
      have y01 : ¬ b0 = b1 := by omega
      have y02 : ¬ b0 = b2 := by omega
      have y10 : ¬ b1 = b0 := by omega
      have y12 : ¬ b1 = b2 := by omega
      have y20 : ¬ b2 = b0 := by omega
      have y21 : ¬ b2 = b1 := by omega
      obtain ⟨u0, u1, u2, u3, u4, u5⟩ := hR.u.sixg
      obtain ⟨q0, q1, q2, q3, q4, q5⟩ := hR.ru.sixg
      obtain ⟨z0, z1, z2, z3, z4⟩ := hR.rd.fiveg
      have uf := hR.u.free
      have qf := hR.ru.free
      have zf := hR.rd.free
      clear hR
      go_wp2_with (fail)
      go_region_held3 (fun w' => w'.cell? ⟨b0, 0, none⟩ = some (.int .u8 2) ∧ w'.cell? ⟨b0, 1, none⟩ = some (.float .f64 x) ∧ w'.cell? ⟨b0, 2, none⟩ = some (.bool l) ∧ w'.cell? ⟨b0, 3, none⟩ = some (.int .u64 s) ∧ w'.cell? ⟨b0, 4, none⟩ = some (.bool true) ∧ w'.cell? ⟨b0, 5, none⟩ = some (.float .f64 x))
        (first | (with_reducible exact ⟨u0, u1, u2, u3, u4, u5⟩) | go_keep)
        (first | (go_at_call 10; (with_reducible refine (rbits_any LX.out _).mono ?_); rintro e w1 ⟨rfl, rfl⟩))
      all_goals
        go_wp2_with fail
        refine bodyPost_ret (v := .tuple #[.int .u64 ((GM.bitsOf x : Nat)), .agg #[.int .u8 2, .float .f64 x, .bool l, .int .u64 s, .bool true, .float .f64 x], .agg #[.int .u8 2, .int .i64 0, .int .u64 ((T : Nat)), .int .u64 ((GM.bitsOf x : Nat)), .bool true]]) (by simp [results, Try.results13, go_sem, q0, q1, q2, q3, q4, q5, z0, z1, z2, z3, z4]) rfl ⟨rfl, ?_⟩
        repeat (first | (with_reducible exact HU.out) | (with_reducible refine Below.drew ?_) | (with_reducible refine Below.drewNg ?_ _) | refine Below.setCell ?_ (by (try simp); omega) _)
theorem rputs_some {k : Int} {x v p : Nat} (lx : B64 x) (lv : B64 v) (h : putG k x v = some p) (w : World) :
    Calls Try.prog 58 #[.agg #[.int .u8 k, .float .f64 x], .float .f64 v] w fun e w' => ∃ r, e = .returned (.tuple #[.float .f64 r, .bool true]) ∧ B64 r ∧ Below w.heap.size w w' ∧ GM.bitsOf r = p :=
  (rputs_any lx lv w).mono fun _ _ ⟨r, he, h1, h2, h3⟩ => ⟨r, by rw [he, h]; rfl, h1, h2, h3 p h⟩
theorem rputs_none {k : Int} {x v : Nat} (lx : B64 x) (lv : B64 v) (h : putG k x v = none) (w : World) :
    Calls Try.prog 58 #[.agg #[.int .u8 k, .float .f64 x], .float .f64 v] w fun e w' => ∃ r, e = .returned (.tuple #[.float .f64 r, .bool false]) ∧ Below w.heap.size w w' :=
  (rputs_any lx lv w).mono fun _ _ ⟨r, he, _, h2, _⟩ => ⟨r, by rw [he, h]; rfl, h2⟩
theorem rbits_at {b p : Nat} (lb : B64 b) (h : GM.bitsOf b = p) (w : World) : Calls Try.prog 10 #[.float .f64 b] w fun e w' => e = .returned (.int .u64 (p : Nat)) ∧ w = w' := h ▸ rbits_any lb w
theorem gstep_load {T x a : Nat} {k s : Int} {p : Nat} (lx : B64 x) (lT : B64 T) (e2 : (k == 2) = false) (hp : putG k x T = some p) (w : World) :
    Calls Try.prog 13 #[.int .u64 (T : Nat), .agg #[.int .u8 k, .float .f64 x, .bool false, .int .u64 s, .bool false, .float .f64 a]] w fun e w' => e = .returned (.tuple #[.int .u64 ((T : Nat)), .agg #[.int .u8 k, .float .f64 x, .bool true, .int .u64 (T : Nat), .bool false, .float .f64 a], .agg #[.int .u8 1, .int .i64 0, .int .u64 ((T : Nat)), .int .u64 ((T : Nat)), .bool true]]) ∧ Below w.heap.size w w' := by
  have LX := Lib.hid lx
  have LT := Lib.hid lT
  have HP := Lib.hid hp
  have st := run_store_float
  have hf := fun w => run_frombits T w
  clear lx lT hp
  go_enter Try.func13, Try.ntmps13
  go_upto_region 1 with (fail)
  go_cut [3, 5, 6, 13] (fun s3 s5 s6 s13 wz => ∃ b0 b1 b2, s3 = .pointer (some ⟨b0, 0, none⟩) ∧ s5 = .pointer (some ⟨b1, 0, none⟩) ∧ s6 = .pointer (some ⟨b2, 0, none⟩) ∧ s13 = .bool false ∧ StartP w b0 b1 b2 [.int .u8 k, .float .f64 x, .bool false, .int .u64 s, .bool false, .float .f64 a] wz)
  case first =>
    go_wp2_with (fail)
    go_meet
    exact ⟨_, _, _, rfl, rfl, rfl, rfl, startP_new w [.int .u8 k, .float .f64 x, .bool false, .int .u64 s, .bool false, .float .f64 a]⟩
  case rest =>
    obtain ⟨c0, c1, c2, rfl, rfl, rfl, rfl, hS⟩ := hcut
    have HS := Lib.hid hS
    obtain ⟨u0, u1, u2, u3, u4, u5⟩ := hS.u.sixg
    have uf := hS.u.free
    have ult := hS.u.lt
    clear hS
    go_upto_region 9 with (fail)
    go_cut [3, 5, 6, 9] (fun s3 s5 s6 s9 wz => ∃ b0 b1 b2, s3 = .pointer (some ⟨b0, 0, none⟩) ∧ s5 = .pointer (some ⟨b1, 0, none⟩) ∧ s6 = .pointer (some ⟨b2, 0, none⟩) ∧ s9 = .bool true ∧ StartP w b0 b1 b2 [.int .u8 k, .float .f64 x, .bool false, .int .u64 s, .bool false, .float .f64 a] wz)
    case first =>
      go_wp2_with (first | (go_at_call 58; (with_reducible refine (rputs_some LX.out LT.out HP.out _).mono ?_); rintro e w1 ⟨r, rfl, hr, hb, hq⟩; have HB := Lib.hid hb; have HR := Lib.hid hr; have HQ := Lib.hid hq; clear hb hr hq))
      go_meet
      exact ⟨_, _, _, rfl, rfl, rfl, rfl, HS.out.on HB.out⟩
    case rest =>
      obtain ⟨c0, c1, c2, rfl, rfl, rfl, rfl, hS⟩ := hcut
      have HS := Lib.hid hS
      obtain ⟨u0, u1, u2, u3, u4, u5⟩ := hS.u.sixg
      have uf := hS.u.free
      have ult := hS.u.lt
      clear hS
      go_upto_region 11 with (fail)
      go_cut [3, 5, 6] (fun s3 s5 s6 wz => ∃ b0 b1 b2, s3 = .pointer (some ⟨b0, 0, none⟩) ∧ s5 = .pointer (some ⟨b1, 0, none⟩) ∧ s6 = .pointer (some ⟨b2, 0, none⟩) ∧ StartP w b0 b1 b2 [.int .u8 k, .float .f64 x, .bool true, .int .u64 (T : Nat), .bool false, .float .f64 a] wz)
      case first =>
        go_wp2_with (fail)
        go_meet
        exact ⟨_, _, _, rfl, rfl, rfl, (HS.out.put 2 _).put 3 _⟩
      case rest =>
        obtain ⟨b0, b1, b2, rfl, rfl, rfl, hR⟩ := hcut
        have HU := Lib.hid hR.low
        have x0 := hR.u.lt
        have x1 := hR.ru.lt
        have x2 := hR.rd.lt
        obtain ⟨gt0, gt1, gt2⟩ := hR.gt
        have y01 : ¬ b0 = b1 := by omega
        have y02 : ¬ b0 = b2 := by omega
        have y10 : ¬ b1 = b0 := by omega
        have y12 : ¬ b1 = b2 := by omega
        have y20 : ¬ b2 = b0 := by omega
        have y21 : ¬ b2 = b1 := by omega
        obtain ⟨u0, u1, u2, u3, u4, u5⟩ := hR.u.sixg
        obtain ⟨q0, q1, q2, q3, q4, q5⟩ := hR.ru.sixg
        obtain ⟨z0, z1, z2, z3, z4⟩ := hR.rd.fiveg
        have uf := hR.u.free
        have qf := hR.ru.free
        have zf := hR.rd.free
        clear hR
        go_wp2_with (fail)
        go_region_held3 (fun w' => w'.cell? ⟨b0, 0, none⟩ = some (.int .u8 k) ∧ w'.cell? ⟨b0, 1, none⟩ = some (.float .f64 x) ∧ w'.cell? ⟨b0, 2, none⟩ = some (.bool true) ∧ w'.cell? ⟨b0, 3, none⟩ = some (.int .u64 (T : Nat)) ∧ w'.cell? ⟨b0, 4, none⟩ = some (.bool false) ∧ w'.cell? ⟨b0, 5, none⟩ = some (.float .f64 a))
          (first | (with_reducible exact ⟨u0, u1, u2, u3, u4, u5⟩) | go_keep)
          (first | fail)
        all_goals
          go_wp2_with fail
          refine bodyPost_ret (v := .tuple #[.int .u64 ((T : Nat)), .agg #[.int .u8 k, .float .f64 x, .bool true, .int .u64 (T : Nat), .bool false, .float .f64 a], .agg #[.int .u8 1, .int .i64 0, .int .u64 ((T : Nat)), .int .u64 ((T : Nat)), .bool true]]) (by simp [results, Try.results13, go_sem, q0, q1, q2, q3, q4, q5, z0, z1, z2, z3, z4]) rfl ⟨rfl, ?_⟩
          repeat (first | (with_reducible exact HU.out) | (with_reducible refine Below.drew ?_) | (with_reducible refine Below.drewNg ?_ _) | refine Below.setCell ?_ (by (try simp); omega) _)
theorem gstep_ends {T x a : Nat} {k s : Int} (lx : B64 x) (lT : B64 T) (e2 : (k == 2) = false) (hp : putG k x T = none) (w : World) :
    Calls Try.prog 13 #[.int .u64 (T : Nat), .agg #[.int .u8 k, .float .f64 x, .bool false, .int .u64 s, .bool false, .float .f64 a]] w fun e w' => e = .returned (.tuple #[.int .u64 ((T : Nat)), .agg #[.int .u8 k, .float .f64 x, .bool false, .int .u64 (T : Nat), .bool true, .float .f64 T], .agg #[.int .u8 1, .int .i64 0, .int .u64 ((T : Nat)), .int .u64 ((T : Nat)), .bool true]]) ∧ Below w.heap.size w w' := by
  have LX := Lib.hid lx
  have LT := Lib.hid lT
  have HP := Lib.hid hp
  have st := run_store_float
  have hf := fun w => run_frombits T w
  clear lx lT hp
  go_enter Try.func13, Try.ntmps13
  go_upto_region 1 with (fail)
  go_cut [3, 5, 6, 13] (fun s3 s5 s6 s13 wz => ∃ b0 b1 b2, s3 = .pointer (some ⟨b0, 0, none⟩) ∧ s5 = .pointer (some ⟨b1, 0, none⟩) ∧ s6 = .pointer (some ⟨b2, 0, none⟩) ∧ s13 = .bool false ∧ StartP w b0 b1 b2 [.int .u8 k, .float .f64 x, .bool false, .int .u64 s, .bool false, .float .f64 a] wz)
  case first =>
    go_wp2_with (fail)
    go_meet
    exact ⟨_, _, _, rfl, rfl, rfl, rfl, startP_new w [.int .u8 k, .float .f64 x, .bool false, .int .u64 s, .bool false, .float .f64 a]⟩
  case rest =>
    obtain ⟨c0, c1, c2, rfl, rfl, rfl, rfl, hS⟩ := hcut
    have HS := Lib.hid hS
    obtain ⟨u0, u1, u2, u3, u4, u5⟩ := hS.u.sixg
    have uf := hS.u.free
    have ult := hS.u.lt
    clear hS
    go_upto_region 9 with (fail)
    go_cut [3, 5, 6, 9] (fun s3 s5 s6 s9 wz => ∃ b0 b1 b2, s3 = .pointer (some ⟨b0, 0, none⟩) ∧ s5 = .pointer (some ⟨b1, 0, none⟩) ∧ s6 = .pointer (some ⟨b2, 0, none⟩) ∧ s9 = .bool false ∧ StartP w b0 b1 b2 [.int .u8 k, .float .f64 x, .bool false, .int .u64 s, .bool false, .float .f64 a] wz)
    case first =>
      go_wp2_with (first | (go_at_call 58; (with_reducible refine (rputs_none LX.out LT.out HP.out _).mono ?_); rintro e w1 ⟨r, rfl, hb⟩; have HB := Lib.hid hb; clear hb))
      go_meet
      exact ⟨_, _, _, rfl, rfl, rfl, rfl, HS.out.on HB.out⟩
    case rest =>
      obtain ⟨c0, c1, c2, rfl, rfl, rfl, rfl, hS⟩ := hcut
      have HS := Lib.hid hS
      obtain ⟨u0, u1, u2, u3, u4, u5⟩ := hS.u.sixg
      have uf := hS.u.free
      have ult := hS.u.lt
      clear hS
      go_upto_region 14 with (fail)
      go_cut [3, 5, 6] (fun s3 s5 s6 wz => ∃ b0 b1 b2, s3 = .pointer (some ⟨b0, 0, none⟩) ∧ s5 = .pointer (some ⟨b1, 0, none⟩) ∧ s6 = .pointer (some ⟨b2, 0, none⟩) ∧ StartP w b0 b1 b2 [.int .u8 k, .float .f64 x, .bool false, .int .u64 (T : Nat), .bool true, .float .f64 T] wz)
      case first =>
        go_wp2_with (fail)
        go_meet
        exact ⟨_, _, _, rfl, rfl, rfl, (((HS.out.put 2 _).put 3 _).put 4 _).put 5 _⟩
      case rest =>
        obtain ⟨b0, b1, b2, rfl, rfl, rfl, hR⟩ := hcut
        have HU := Lib.hid hR.low
        have x0 := hR.u.lt
        have x1 := hR.ru.lt
        have x2 := hR.rd.lt
        obtain ⟨gt0, gt1, gt2⟩ := hR.gt
        have y01 : ¬ b0 = b1 := by omega
        have y02 : ¬ b0 = b2 := by omega
        have y10 : ¬ b1 = b0 := by omega
        have y12 : ¬ b1 = b2 := by omega
        have y20 : ¬ b2 = b0 := by omega
        have y21 : ¬ b2 = b1 := by omega
        obtain ⟨u0, u1, u2, u3, u4, u5⟩ := hR.u.sixg
        obtain ⟨q0, q1, q2, q3, q4, q5⟩ := hR.ru.sixg
        obtain ⟨z0, z1, z2, z3, z4⟩ := hR.rd.fiveg
        have uf := hR.u.free
        have qf := hR.ru.free
        have zf := hR.rd.free
        clear hR
        go_wp2_with (fail)
        go_region_held3 (fun w' => w'.cell? ⟨b0, 0, none⟩ = some (.int .u8 k) ∧ w'.cell? ⟨b0, 1, none⟩ = some (.float .f64 x) ∧ w'.cell? ⟨b0, 2, none⟩ = some (.bool false) ∧ w'.cell? ⟨b0, 3, none⟩ = some (.int .u64 (T : Nat)) ∧ w'.cell? ⟨b0, 4, none⟩ = some (.bool true) ∧ w'.cell? ⟨b0, 5, none⟩ = some (.float .f64 T))
          (first | (with_reducible exact ⟨u0, u1, u2, u3, u4, u5⟩) | go_keep)
          (first | fail)
        all_goals
          go_wp2_with fail
          refine bodyPost_ret (v := .tuple #[.int .u64 ((T : Nat)), .agg #[.int .u8 k, .float .f64 x, .bool false, .int .u64 (T : Nat), .bool true, .float .f64 T], .agg #[.int .u8 1, .int .i64 0, .int .u64 ((T : Nat)), .int .u64 ((T : Nat)), .bool true]]) (by simp [results, Try.results13, go_sem, q0, q1, q2, q3, q4, q5, z0, z1, z2, z3, z4]) rfl ⟨rfl, ?_⟩
          repeat (first | (with_reducible exact HU.out) | (with_reducible refine Below.drew ?_) | (with_reducible refine Below.drewNg ?_ _) | refine Below.setCell ?_ (by (try simp); omega) _)
theorem gstep_hit {T x a : Nat} {k : Int} {p : Nat} (lx : B64 x) (lT : B64 T) (e2 : (k == 2) = false) (hp : putG k x T = some p) (w : World) :
    Calls Try.prog 13 #[.int .u64 (T : Nat), .agg #[.int .u8 k, .float .f64 x, .bool true, .int .u64 (T : Nat), .bool false, .float .f64 a]] w fun e w' => (∃ r, B64 r ∧ GM.bitsOf r = p ∧ e = .returned (.tuple #[.int .u64 ((p : Nat)), .agg #[.int .u8 k, .float .f64 x, .bool false, .int .u64 (T : Nat), .bool true, .float .f64 r], .agg #[.int .u8 5, .int .i64 0, .int .u64 ((T : Nat)), .int .u64 ((p : Nat)), .bool true]])) ∧ Below w.heap.size w w' := by
  have LX := Lib.hid lx
  have LT := Lib.hid lT
  have HP := Lib.hid hp
  have st := run_store_float
  have hf := fun w => run_frombits T w
  clear lx lT hp
  go_enter Try.func13, Try.ntmps13
  go_upto_region 1 with (fail)
  go_cut [3, 5, 6, 13] (fun s3 s5 s6 s13 wz => ∃ b0 b1 b2, s3 = .pointer (some ⟨b0, 0, none⟩) ∧ s5 = .pointer (some ⟨b1, 0, none⟩) ∧ s6 = .pointer (some ⟨b2, 0, none⟩) ∧ s13 = .bool false ∧ StartP w b0 b1 b2 [.int .u8 k, .float .f64 x, .bool true, .int .u64 (T : Nat), .bool false, .float .f64 a] wz)
  case first =>
    go_wp2_with (fail)
    go_meet
    exact ⟨_, _, _, rfl, rfl, rfl, rfl, startP_new w [.int .u8 k, .float .f64 x, .bool true, .int .u64 (T : Nat), .bool false, .float .f64 a]⟩
  case rest =>
    obtain ⟨c0, c1, c2, rfl, rfl, rfl, rfl, hS⟩ := hcut
    have HS := Lib.hid hS
    obtain ⟨u0, u1, u2, u3, u4, u5⟩ := hS.u.sixg
    have uf := hS.u.free
    have ult := hS.u.lt
    clear hS
    go_upto_region 16 with (fail)
    go_cut [3, 5, 6] (fun s3 s5 s6 wz => ∃ b0 b1 b2, s3 = .pointer (some ⟨b0, 0, none⟩) ∧ s5 = .pointer (some ⟨b1, 0, none⟩) ∧ s6 = .pointer (some ⟨b2, 0, none⟩) ∧ StartP w b0 b1 b2 [.int .u8 k, .float .f64 x, .bool false, .int .u64 (T : Nat), .bool false, .float .f64 a] wz)
    case first =>
      go_wp2_with (fail)
      go_meet
      exact ⟨_, _, _, rfl, rfl, rfl, HS.out.put 2 _⟩
    case rest =>
      obtain ⟨c0, c1, c2, rfl, rfl, rfl, hS⟩ := hcut
      have HS := Lib.hid hS
      obtain ⟨u0, u1, u2, u3, u4, u5⟩ := hS.u.sixg
      have uf := hS.u.free
      have ult := hS.u.lt
      clear hS
      go_upto_region 19 with (fail)
      go_cut [3, 5, 6, 10] (fun s3 s5 s6 s10 wz => ∃ b0 b1 b2 r, s3 = .pointer (some ⟨b0, 0, none⟩) ∧ s5 = .pointer (some ⟨b1, 0, none⟩) ∧ s6 = .pointer (some ⟨b2, 0, none⟩) ∧ s10 = .float .f64 r ∧ B64 r ∧ GM.bitsOf r = p ∧ StartP w b0 b1 b2 [.int .u8 k, .float .f64 x, .bool false, .int .u64 (T : Nat), .bool false, .float .f64 a] wz)
      case first =>
        go_region_held3 (fun w' => w'.cell? ⟨c0, 0, none⟩ = some (.int .u8 k) ∧ w'.cell? ⟨c0, 1, none⟩ = some (.float .f64 x)) (first | (with_reducible exact ⟨u0, u1⟩) | (with_reducible exact ⟨v0, v1⟩) | go_keep) (first | (go_at_call 58; (with_reducible refine (rputs_some LX.out LT.out HP.out _).mono ?_); rintro e w1 ⟨r, rfl, hr, hb, hq⟩; have v0 : w1.cell? ⟨c0, 0, none⟩ = some (.int .u8 k) := (hb.cell (by simpa using ult)).trans u0; have v1 : w1.cell? ⟨c0, 1, none⟩ = some (.float .f64 x) := (hb.cell (by simpa using ult)).trans u1; have HB := Lib.hid hb; have HR := Lib.hid hr; have HQ := Lib.hid hq; clear hb hr hq))
        all_goals
          go_wp2_with (fail)
          go_meet
          exact ⟨_, _, _, _, rfl, rfl, rfl, rfl, HR.out, HQ.out, (by first | (with_reducible exact HS.out.on HB.out) | exact (HS.out.on (Below.drew (Below.refl _ _))).on HB.out)⟩
      case rest =>
        obtain ⟨c0, c1, c2, r, rfl, rfl, rfl, rfl, hr, hq, hS⟩ := hcut
        have HR := Lib.hid hr
        have HQ := Lib.hid hq
        have HS := Lib.hid hS
        obtain ⟨u0, u1, u2, u3, u4, u5⟩ := hS.u.sixg
        have uf := hS.u.free
        have ult := hS.u.lt
        clear hS hr hq
        go_upto_region 21 with (fail)
        go_cut [3, 5, 6] (fun s3 s5 s6 wz => ∃ b0 b1 b2, s3 = .pointer (some ⟨b0, 0, none⟩) ∧ s5 = .pointer (some ⟨b1, 0, none⟩) ∧ s6 = .pointer (some ⟨b2, 0, none⟩) ∧ StartP w b0 b1 b2 [.int .u8 k, .float .f64 x, .bool false, .int .u64 (T : Nat), .bool true, .float .f64 r] wz)
        case first =>
          go_wp2_with (fail)
          go_meet
          exact ⟨_, _, _, rfl, rfl, rfl, (HS.out.put 4 _).put 5 _⟩
        case rest =>
          obtain ⟨b0, b1, b2, rfl, rfl, rfl, hR⟩ := hcut
          have HU := Lib.hid hR.low
          have x0 := hR.u.lt
          have x1 := hR.ru.lt
          have x2 := hR.rd.lt
          obtain ⟨gt0, gt1, gt2⟩ := hR.gt
          have y01 : ¬ b0 = b1 := by omega
          have y02 : ¬ b0 = b2 := by omega
          have y10 : ¬ b1 = b0 := by omega
          have y12 : ¬ b1 = b2 := by omega
          have y20 : ¬ b2 = b0 := by omega
          have y21 : ¬ b2 = b1 := by omega
          obtain ⟨u0, u1, u2, u3, u4, u5⟩ := hR.u.sixg
          obtain ⟨q0, q1, q2, q3, q4, q5⟩ := hR.ru.sixg
          obtain ⟨z0, z1, z2, z3, z4⟩ := hR.rd.fiveg
          have uf := hR.u.free
          have qf := hR.ru.free
          have zf := hR.rd.free
          clear hR
          go_wp2_with (fail)
          go_region_held3 (fun w' => w'.cell? ⟨b0, 0, none⟩ = some (.int .u8 k) ∧ w'.cell? ⟨b0, 1, none⟩ = some (.float .f64 x) ∧ w'.cell? ⟨b0, 2, none⟩ = some (.bool false) ∧ w'.cell? ⟨b0, 3, none⟩ = some (.int .u64 (T : Nat)) ∧ w'.cell? ⟨b0, 4, none⟩ = some (.bool true) ∧ w'.cell? ⟨b0, 5, none⟩ = some (.float .f64 r))
            (first | (with_reducible exact ⟨u0, u1, u2, u3, u4, u5⟩) | go_keep)
            (first | (go_at_call 10; (with_reducible refine (rbits_at HR.out HQ.out _).mono ?_); rintro e w1 ⟨rfl, rfl⟩))
          all_goals
            go_wp2_with fail
            refine bodyPost_ret (v := .tuple #[.int .u64 ((p : Nat)), .agg #[.int .u8 k, .float .f64 x, .bool false, .int .u64 (T : Nat), .bool true, .float .f64 r], .agg #[.int .u8 5, .int .i64 0, .int .u64 ((T : Nat)), .int .u64 ((p : Nat)), .bool true]]) (by simp [results, Try.results13, go_sem, q0, q1, q2, q3, q4, q5, z0, z1, z2, z3, z4]) rfl ⟨⟨r, HR.out, HQ.out, rfl⟩, ?_⟩
            repeat (first | (with_reducible exact HU.out) | (with_reducible refine Below.drew ?_) | (with_reducible refine Below.drewNg ?_ _) | refine Below.setCell ?_ (by (try simp); omega) _)
end Go.Proofs.Ytcocegneegjcpaa
