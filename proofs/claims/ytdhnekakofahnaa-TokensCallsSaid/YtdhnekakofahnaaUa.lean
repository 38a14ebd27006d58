/- THE WALK of the law 'TokensCalls'. -/
import Derived.Test.YtdhnekakofahnaaTz
namespace Go.Proofs.Ytdhnekakofahnaa
open Go Go.RowKit

theorem OneT.blocks {W wr : World} {bt bk bw : Nat} {ev bu T : Int} (h : OneT W bt bk bw ev bu T wr) : bt < wr.heap.size ∧ bk < wr.heap.size ∧ bw < wr.heap.size ∧ W.heap.size ≤ wr.heap.size := ⟨h.buck.head.lt, h.buck.words.head.lt, h.buck.words.row.lt, h.low.size⟩
/-- a store into a block that was made later -/
theorem OneT.set {W wr : World} {bt bk bw : Nat} {ev bu T : Int} (h : OneT W bt bk bw ev bu T wr) {p : Addr} (hp : bt < p.block ∧ bk < p.block ∧ bw < p.block ∧ W.heap.size ≤ p.block) (u : Value) : OneT W bt bk bw ev bu T (wr.setCell p u) :=
  have hP : Part [p.block] wr (wr.setCell p u) := Part.set (Part.refl _ _) (by simp) u
  ⟨h.buck.part hP (by simp; omega) (by simp; omega) (by simp; omega), h.lo, h.low.setCell hp.2.2.2 u⟩

set_option maxRecDepth 100000
theorem tcalls_no {ev bu : Int} (h : fitsB ev bu = false) {A : Option Addr} {len cap : Nat} (W : World) :
    Calls Try.prog 9 #[.int .i64 ev, .int .i64 bu, .slice A len cap] W fun e w' => e = .returned (.bool true) ∧ Below W.heap.size W w' := by
  have H := Lib.hid h
  clear h
  go_enter Try.func9, Try.ntmps9
  go_wp2_with (first
    | (go_at_call 50; refine (tbegins_any _).mono ?_; rintro e w0 ⟨rfl, hb⟩; have HB0 := Lib.hid hb; clear hb)
    | (go_at_call 49; refine (rfits_any _ _ _).mono ?_; rw [H.out]; rintro e wx ⟨rfl, rfl⟩)
    | (go_at_call 48; refine (tnew_no H.out).mono ?_; rintro e wx ⟨rfl, rfl⟩))
  go_ret
  exact ⟨rfl, HB0.out⟩
set_option maxHeartbeats 12800000 in
theorem tcalls_yes {ev bu : Int} (h : fitsB ev bu = true) {A : Option Addr} {cap : Nat} {ops : List (Int × Int × Int)} (W : World) (hE : Ext3 .u8 .i64 .i64 W A ops) (hr : ops.length * 24 ≤ 140737488351232) :
    Calls Try.prog 9 #[.int .i64 ev, .int .i64 bu, .slice A ops.length cap] W fun e w' => e = .returned (.bool true) ∧ Below W.heap.size W w' := by
  have HE := Lib.hid hE
  have HF := Lib.hid h
  clear hE h
  go_enter Try.func9, Try.ntmps9
  go_wp2_with (go_at_call 48; refine (tnew_yes _ HF.out).mono ?_; rintro e w1 ⟨bt, bk, bw, rfl, hc, hk, hw, hS, hb⟩; have HO1 := Lib.hid (OneT.start (Below.refl _ _) hS hw hb); clear hc hk hw hS hb)
  go_loopw [10, 11] (fun tv u wr => ∃ j : Nat, j ≤ ops.length ∧ u = .int .i64 j ∧ ∃ T, tv = .int .i64 T ∧ OneT W bt bk bw ev bu T wr) (fun _ u _ => ops.length - (intOf u).toNat)
  case atStart => exact ⟨0, Nat.zero_le _, rfl, _, rfl, HO1.out⟩
  case round =>
    obtain ⟨j, hj, rfl, T, rfl, hO⟩ := hrel
    have HO := Lib.hid hO
    have hT0 := hO.buck.lo
    have hT1 := hO.buck.hi
    have HT0 := Lib.hid hT0
    have HT1 := Lib.hid hT1
    clear hO HO1
    by_cases hlt : j < ops.length
    · obtain ⟨⟨k, t, n⟩, hop⟩ : ∃ op, ops[j]? = some op := ⟨ops[j], List.getElem?_eq_getElem hlt⟩
      obtain ⟨b', o, rfl, hlt', q0, q1, q2⟩ := (HE.out.on HO.out.low) j _ hop
      dsimp only at q0 q1 q2
      have hlt2 : (j : Int) < (ops.length : Int) := by omega
      clear hop
      by_cases hk1 : k = 1
      · subst hk1
        cases hR : trightB 1 t n with
        | true =>
          have HR := Lib.hid (rightT_iff.1 hR)
          have HRB := Lib.hid hR
          clear hR
          go_wp2_with (first | (go_at_call 58; (with_reducible refine (ttake_yes ((HO.out.alloc _).alloc _).buck HR.out).mono ?_); rintro e w2 ⟨rfl, hB, hP⟩; have HO2 := Lib.hid (((HO.out.alloc _).alloc _).next hB hP); have hx : Row w2 wr.heap.size 93 [.int .u8 1, .int .i64 t, .int .i64 n] := ((Row.new wr _ [.int .u8 1, .int .i64 t, .int .i64 n]).alloc _).part hP (by have := HO.out.buck.words.row.lt; simp; omega); have hg : Row w2 (wr.heap.size + 1) 96 [.bool false, .int .i64 0, .int .i64 0] := (Row.new2 wr _ _ [.bool false, .int .i64 0, .int .i64 0] rfl).part hP (by have := HO.out.buck.words.row.lt; simp; omega); have HX2 := Lib.hid hx; have HG2 := Lib.hid hg; have x0 := hx.cell 0; have x1 := hx.cell 1; have x2 := hx.cell 2; have xlt := hx.lt; have g0 := hg.cell 0; have g1 := hg.cell 1; have g2 := hg.cell 2; have gf := hg.free; have glt := hg.lt; clear hx hg hB hP) | (go_at_call 52; refine (rright_any _ _ _ _).mono ?_; rw [HRB.out]; rintro e w3 ⟨rfl, hb⟩; have HO3 := Lib.hid ((((HO2.out.set (by have := HO.out.blocks; simp; omega) _).set (by have := HO.out.blocks; simp; omega) _).set (by have := HO.out.blocks; simp; omega) _).on hb); have hx : Row w3 wr.heap.size 93 [.int .u8 1, .int .i64 t, .int .i64 n] := (((HX2.out.far (by simp) _).far (by simp) _).far (by simp) _).below hb (by simp; exact HX2.out.lt); have hg : Row w3 (wr.heap.size + 1) 96 [.bool (takeB ev bu T t n), .int .i64 (waitT ev bu T t n), .int .i64 0] := (Row.of_eq' (((HG2.out.set 0 _).set 1 _).set 2 _) rfl).below hb (by simp; exact HG2.out.lt); have HX3 := Lib.hid hx; have HG3 := Lib.hid hg; have x0 := hx.cell 0; have x1 := hx.cell 1; have x2 := hx.cell 2; have xlt := hx.lt; have g0 := hg.cell 0; have g1 := hg.cell 1; have g2 := hg.cell 2; have glt := hg.lt; clear hx hg hb) | (go_at_call 60; refine (rwhole_take _ HF.out HT0.out HT1.out HR.out).mono ?_; rintro e w4 ⟨rfl, hb⟩; have HO4 := Lib.hid ((HO3.out.alloc _).on hb); have tw0 := HO4.out.buck.lo; have tw1 := HO4.out.buck.hi; have hg : Row w4 (wr.heap.size + 1) 96 [.bool (takeB ev bu T t n), .int .i64 (waitT ev bu T t n), .int .i64 0] := (HG3.out.alloc _).below hb (by have := HG3.out.lt; rw [World.size_alloc]; omega); have hn : Row w4 w3.heap.size 96 [.bool false, .int .i64 0, .int .i64 0] := (Row.new w3 _ _).below hb (by simp); have HG4 := Lib.hid hg; have HN4 := Lib.hid hn; have g0 := hg.cell 0; have g1 := hg.cell 1; have g2 := hg.cell 2; have glt := hg.lt; have n0 := hn.cell 0; have n1 := hn.cell 1; have n2 := hn.cell 2; have nf := hn.free; have nlt := hn.lt; have ne1 : ¬ wr.heap.size + 1 = w3.heap.size := (by have := HG3.out.lt; omega); have ne2 : ¬ w3.heap.size = wr.heap.size + 1 := (by have := HG3.out.lt; omega); clear hg hn hb) | (go_at_call 57; refine (tword_any (((HO4.out.set (by have := HO3.out.blocks; simp; omega) _).set (by have := HO3.out.blocks; simp; omega) _).set (by have := HO3.out.blocks; simp; omega) _).buck).mono ?_; rintro e wx ⟨rfl, rfl⟩))
          go_roundw
          case rel => exact ⟨j + 1, by omega, by go_num, takeW ev bu T t n, rfl, (((HO4.out.set (by have := HO3.out.blocks; simp; omega) _).set (by have := HO3.out.blocks; simp; omega) _).set (by have := HO3.out.blocks; simp; omega) _)⟩
          case measure => simp [intOf]; omega
        | false =>
          have HR := Lib.hid hR
          have HRB := Lib.hid hR
          clear hR
          go_wp2_with (first | (go_at_call 58; (with_reducible refine (ttake_no HR.out).mono ?_); unfold zeroV; rintro e w2 ⟨rfl, hb⟩; have HO2 := Lib.hid (((HO.out.alloc _).alloc _).on hb); have hx : Row w2 wr.heap.size 93 [.int .u8 1, .int .i64 t, .int .i64 n] := ((Row.new wr _ [.int .u8 1, .int .i64 t, .int .i64 n]).alloc _).below hb (by simp; omega); have hg : Row w2 (wr.heap.size + 1) 96 [.bool false, .int .i64 0, .int .i64 0] := (Row.new2 wr _ _ [.bool false, .int .i64 0, .int .i64 0] rfl).below hb (by simp); have HX2 := Lib.hid hx; have HG2 := Lib.hid hg; have x0 := hx.cell 0; have x1 := hx.cell 1; have x2 := hx.cell 2; have xlt := hx.lt; have g0 := hg.cell 0; have g1 := hg.cell 1; have g2 := hg.cell 2; have gf := hg.free; have glt := hg.lt; clear hx hg hb) | (go_at_call 52; refine (rright_any _ _ _ _).mono ?_; rw [HRB.out]; rintro e w3 ⟨rfl, hb⟩; have HO3 := Lib.hid ((((HO2.out.set (by have := HO.out.blocks; simp; omega) _).set (by have := HO.out.blocks; simp; omega) _).set (by have := HO.out.blocks; simp; omega) _).on hb); have hx : Row w3 wr.heap.size 93 [.int .u8 1, .int .i64 t, .int .i64 n] := (((HX2.out.far (by simp) _).far (by simp) _).far (by simp) _).below hb (by simp; exact HX2.out.lt); have hg : Row w3 (wr.heap.size + 1) 96 [.bool false, .int .i64 0, .int .i64 0] := (Row.of_eq' (((HG2.out.set 0 _).set 1 _).set 2 _) rfl).below hb (by simp; exact HG2.out.lt); have HX3 := Lib.hid hx; have HG3 := Lib.hid hg; have x0 := hx.cell 0; have x1 := hx.cell 1; have x2 := hx.cell 2; have xlt := hx.lt; have g0 := hg.cell 0; have g1 := hg.cell 1; have g2 := hg.cell 2; have glt := hg.lt; clear hx hg hb))
          go_roundw
          case rel => exact ⟨j + 1, by omega, by go_num, T, rfl, HO3.out⟩
          case measure => simp [intOf]; omega
      have k1 : (k == 1) = false := by simpa using hk1
      by_cases hk2 : k = 2
      · subst hk2
        cases hR : trightB 2 t 0 with
        | true =>
          have HR := Lib.hid (rightT_iff.1 hR)
          have HRB := Lib.hid hR
          clear hR
          go_wp2_with (first | (go_at_call 59; (with_reducible refine (tpeek_yes ((HO.out.alloc _).alloc _).buck HR.out).mono ?_); rintro e w2 ⟨rfl, hB, hP⟩; have HO2 := Lib.hid (((HO.out.alloc _).alloc _).next hB hP); have hx : Row w2 wr.heap.size 93 [.int .u8 2, .int .i64 t, .int .i64 0] := ((Row.new wr _ [.int .u8 2, .int .i64 t, .int .i64 0]).alloc _).part hP (by have := HO.out.buck.words.row.lt; simp; omega); have hg : Row w2 (wr.heap.size + 1) 96 [.bool false, .int .i64 0, .int .i64 0] := (Row.new2 wr _ _ [.bool false, .int .i64 0, .int .i64 0] rfl).part hP (by have := HO.out.buck.words.row.lt; simp; omega); have HX2 := Lib.hid hx; have HG2 := Lib.hid hg; have x0 := hx.cell 0; have x1 := hx.cell 1; have x2 := hx.cell 2; have xlt := hx.lt; have g0 := hg.cell 0; have g1 := hg.cell 1; have g2 := hg.cell 2; have gf := hg.free; have glt := hg.lt; clear hx hg hB hP) | (go_at_call 52; refine (rright_any _ _ _ _).mono ?_; rw [HRB.out]; rintro e w3 ⟨rfl, hb⟩; have HO3 := Lib.hid ((HO2.out.set (by have := HO.out.blocks; simp; omega) _).on hb); have hx : Row w3 wr.heap.size 93 [.int .u8 2, .int .i64 t, .int .i64 0] := (HX2.out.far (by simp) _).below hb (by simp; exact HX2.out.lt); have hg : Row w3 (wr.heap.size + 1) 96 [.bool false, .int .i64 0, .int .i64 (roomV ev bu T t / ev)] := (Row.of_eq' (HG2.out.set 2 _) rfl).below hb (by simp; exact HG2.out.lt); have HX3 := Lib.hid hx; have HG3 := Lib.hid hg; have x0 := hx.cell 0; have x1 := hx.cell 1; have x2 := hx.cell 2; have xlt := hx.lt; have g0 := hg.cell 0; have g1 := hg.cell 1; have g2 := hg.cell 2; have glt := hg.lt; clear hx hg hb) | (go_at_call 60; refine (rwhole_look _ HF.out HT0.out HT1.out HR.out).mono ?_; rintro e w4 ⟨rfl, hb⟩; have HO4 := Lib.hid ((HO3.out.alloc _).on hb); have tw0 := HO4.out.buck.lo; have tw1 := HO4.out.buck.hi; have hg : Row w4 (wr.heap.size + 1) 96 [.bool false, .int .i64 0, .int .i64 (roomV ev bu T t / ev)] := (HG3.out.alloc _).below hb (by have := HG3.out.lt; rw [World.size_alloc]; omega); have hn : Row w4 w3.heap.size 96 [.bool false, .int .i64 0, .int .i64 0] := (Row.new w3 _ _).below hb (by simp); have HG4 := Lib.hid hg; have HN4 := Lib.hid hn; have g0 := hg.cell 0; have g1 := hg.cell 1; have g2 := hg.cell 2; have glt := hg.lt; have n0 := hn.cell 0; have n1 := hn.cell 1; have n2 := hn.cell 2; have nf := hn.free; have nlt := hn.lt; have ne1 : ¬ wr.heap.size + 1 = w3.heap.size := (by have := HG3.out.lt; omega); have ne2 : ¬ w3.heap.size = wr.heap.size + 1 := (by have := HG3.out.lt; omega); clear hg hn hb) | (go_at_call 57; refine (tword_any (((HO4.out.set (by have := HO3.out.blocks; simp; omega) _).set (by have := HO3.out.blocks; simp; omega) _).set (by have := HO3.out.blocks; simp; omega) _).buck).mono ?_; rintro e wx ⟨rfl, rfl⟩))
          go_roundw
          case rel => exact ⟨j + 1, by omega, by go_num, T, rfl, (((HO4.out.set (by have := HO3.out.blocks; simp; omega) _).set (by have := HO3.out.blocks; simp; omega) _).set (by have := HO3.out.blocks; simp; omega) _)⟩
          case measure => simp [intOf]; omega
        | false =>
          have HR := Lib.hid hR
          have HRB := Lib.hid hR
          clear hR
          go_wp2_with (first | (go_at_call 59; (with_reducible refine (tpeek_no HR.out).mono ?_); rintro e w2 ⟨rfl, hb⟩; have HO2 := Lib.hid (((HO.out.alloc _).alloc _).on hb); have hx : Row w2 wr.heap.size 93 [.int .u8 2, .int .i64 t, .int .i64 0] := ((Row.new wr _ [.int .u8 2, .int .i64 t, .int .i64 0]).alloc _).below hb (by simp; omega); have hg : Row w2 (wr.heap.size + 1) 96 [.bool false, .int .i64 0, .int .i64 0] := (Row.new2 wr _ _ [.bool false, .int .i64 0, .int .i64 0] rfl).below hb (by simp); have HX2 := Lib.hid hx; have HG2 := Lib.hid hg; have x0 := hx.cell 0; have x1 := hx.cell 1; have x2 := hx.cell 2; have xlt := hx.lt; have g0 := hg.cell 0; have g1 := hg.cell 1; have g2 := hg.cell 2; have gf := hg.free; have glt := hg.lt; clear hx hg hb) | (go_at_call 52; refine (rright_any _ _ _ _).mono ?_; rw [HRB.out]; rintro e w3 ⟨rfl, hb⟩; have HO3 := Lib.hid ((HO2.out.set (by have := HO.out.blocks; simp; omega) _).on hb); have hx : Row w3 wr.heap.size 93 [.int .u8 2, .int .i64 t, .int .i64 0] := (HX2.out.far (by simp) _).below hb (by simp; exact HX2.out.lt); have hg : Row w3 (wr.heap.size + 1) 96 [.bool false, .int .i64 0, .int .i64 0] := (Row.of_eq' (HG2.out.set 2 _) rfl).below hb (by simp; exact HG2.out.lt); have HX3 := Lib.hid hx; have HG3 := Lib.hid hg; have x0 := hx.cell 0; have x1 := hx.cell 1; have x2 := hx.cell 2; have xlt := hx.lt; have g0 := hg.cell 0; have g1 := hg.cell 1; have g2 := hg.cell 2; have glt := hg.lt; clear hx hg hb))
          go_roundw
          case rel => exact ⟨j + 1, by omega, by go_num, T, rfl, HO3.out⟩
          case measure => simp [intOf]; omega
      have k2 : (k == 2) = false := by simpa using hk2
      go_wp2
      go_roundw
      case rel => exact ⟨j + 1, by omega, by go_num, T, rfl, (HO.out.alloc _).alloc _⟩
      case measure => simp [intOf]; omega
    · obtain rfl : j = ops.length := by omega
      go_wp2_with (go_at_call 50; refine (tbegins_any _).mono ?_; rintro e w9 ⟨rfl, hb⟩; have HO9 := Lib.hid (HO.out.on hb); clear hb)
      go_ret
      exact ⟨rfl, HO9.out.low⟩
end Go.Proofs.Ytdhnekakofahnaa
