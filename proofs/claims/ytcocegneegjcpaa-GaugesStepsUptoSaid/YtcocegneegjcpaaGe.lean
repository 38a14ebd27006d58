/- THE WALKS of package gauges: load, store. -/
import Derived.Test.YtcocegneegjcpaaGd
namespace Go.Proofs.Ytcocegneegjcpaa
open Go Go.RowKit

theorem Part.undrew {S : List Nat} {w w1 : World} (h : Part S w.drew w1) : Part S w w1 := ⟨h.os, h.tape, h.output, h.size, h.block⟩
theorem gwants_none {w : World} {bp bk : Nat} {k : Int} {x saw put ans v : Nat} {nx : Value} (h : Row w bp 115 (pendG bk k x saw put nx ans)) (lx : B64 x) (lv : B64 v) (hn : putG k x v = none) :
    Calls Try.prog 82 #[.pointer (some ⟨bp, 0, none⟩), .float .f64 v] w fun e w' => ∃ r m, e = .returned (.tuple #[.float .f64 r, .bool false]) ∧ w' = w.drewN m :=
  (gwants_any h lx lv).mono fun e w' ⟨r, he, _, ⟨m, hm⟩, _⟩ => ⟨r, m, by rw [he, hn]; rfl, hm⟩
theorem gwants_some {w : World} {bp bk : Nat} {k : Int} {x saw put ans v p : Nat} {nx : Value} (h : Row w bp 115 (pendG bk k x saw put nx ans)) (lx : B64 x) (lv : B64 v) (hn : putG k x v = some p) :
    Calls Try.prog 82 #[.pointer (some ⟨bp, 0, none⟩), .float .f64 v] w fun e w' => ∃ r m, e = .returned (.tuple #[.float .f64 r, .bool true]) ∧ w' = w.drewN m ∧ B64 r ∧ GM.bitsOf r = p :=
  (gwants_any h lx lv).mono fun e w' ⟨r, he, lr, ⟨m, hm⟩, hb⟩ => ⟨r, m, by rw [he, hn]; rfl, hm, lr, hb p hn⟩
theorem gbits_at {r p : Nat} (lr : B64 r) (h : GM.bitsOf r = p) (w : World) : Calls Try.prog 18 #[.float .f64 r] w fun e w' => e = .returned (.int .u64 (p : Int)) ∧ w = w' := by
  subst h
  exact gbits_any lr w

set_option maxHeartbeats 1600000
set_option maxRecDepth 100000
theorem fload_end {w : World} {bk bw bp : Nat} {T : Nat} {k : Int} {x saw put ans : Nat} {nx : Value} (h : Words w bk bw [(T : Int)]) (hp : Row w bp 115 (pendG bk k x saw put nx ans)) (lT : B64 T) (lx : B64 x) (hn : putG k x T = none) :
    Calls Try.prog 55 #[.pointer (some ⟨bp, 0, none⟩)] w (SteppedG w bk bw bp T (pendG bk k x saw put .nilFunc T) (.agg #[.int .u8 1, .int .i64 0, .int .u64 (T : Int), .int .u64 (T : Int), .bool true])) := by
  obtain ⟨c0, c1, c2, c3, c4, c5, c6⟩ := pendG_cells hp
  have hbp := hp.lt
  have hbw := h.row.lt
  have hb := run_frombits T
  have H := Lib.hid h
  have HP := Lib.hid hp
  have HN := Lib.hid hn
  have LT := Lib.hid lT
  have LX := Lib.hid lx
  clear h hp hn lT lx c1 c2 c3 c4 c5 c6
  go_enter Try.func55, Try.ntmps55
  go_wp2_with (first
    | (go_at_call 81; refine (gdo_load (H.out.alloc _)).mono ?_; rintro e w2 ⟨rfl, hW2, hP2⟩; have HM := Lib.hid (midg_a H.out HP.out hW2 hP2 (did := [.int .u8 1, .int .i64 0, .int .u64 (T : Int), .int .u64 (T : Int), .bool true])); have blt := HM.out.pend.lt; have hg := HM.out.lo; clear hW2 hP2)
    | (go_at_call 82; refine (gwants_none HM.out.pend LX.out LT.out HN.out).mono ?_; rintro e w3 ⟨r, m, rfl, rfl⟩)
    | (go_at_call 83; refine (gend_any (HM.out.pend.drewN _) T).mono ?_; rintro e w4 ⟨rfl, hR4, hP4⟩; have HR4 := Lib.hid hR4; have HP4 := Lib.hid hP4; have hd4 := Row.part (HM.out.did.drewN _) hP4 (by simp; omega); obtain ⟨g0, g1, g2, g3, g4⟩ := hd4.five; have glt := hd4.lt; have hb4 := Row.part (HM.out.res.drewN _) hP4 (by simp; omega); unfold noDid at hb4; obtain ⟨x0, x1, x2, x3, x4⟩ := hb4.five; have xf := hb4.free; have xlt := hb4.lt; clear hR4 hP4 hd4 hb4))
  refine bodyPost_ret (v := .agg #[.int .u8 1, .int .i64 0, .int .u64 (T : Int), .int .u64 (T : Int), .bool true]) (by simp [results, Try.results55, go_sem, x0, x1, x2, x3, x4]) rfl ⟨rfl, ?_⟩
  refine midg_end2 (HM.out.drewN _) H.out hbp HR4.out HP4.out ?_
  repeat (first | (with_reducible exact Part.refl _ _) | refine Part.set ?_ (by simp) _)
theorem fload_go {w : World} {bk bw bp : Nat} {T : Nat} {k : Int} {x saw put ans p : Nat} {nx : Value} (h : Words w bk bw [(T : Int)]) (hp : Row w bp 115 (pendG bk k x saw put nx ans)) (lT : B64 T) (lx : B64 x) (hn : putG k x T = some p) :
    Calls Try.prog 55 #[.pointer (some ⟨bp, 0, none⟩)] w (SteppedG w bk bw bp T (pendG bk k x T p (fnV 84) ans) (.agg #[.int .u8 1, .int .i64 0, .int .u64 (T : Int), .int .u64 (T : Int), .bool true])) := by
  obtain ⟨c0, c1, c2, c3, c4, c5, c6⟩ := pendG_cells hp
  have hbp := hp.lt
  have hbw := h.row.lt
  have hb := run_frombits T
  have H := Lib.hid h
  have HP := Lib.hid hp
  have HN := Lib.hid hn
  have LT := Lib.hid lT
  have LX := Lib.hid lx
  clear h hp hn lT lx c1 c2 c3 c4 c5 c6
  go_enter Try.func55, Try.ntmps55
  go_wp2_with (first
    | (go_at_call 81; refine (gdo_load (H.out.alloc _)).mono ?_; rintro e w2 ⟨rfl, hW2, hP2⟩; have HM := Lib.hid (midg_a H.out HP.out hW2 hP2 (did := [.int .u8 1, .int .i64 0, .int .u64 (T : Int), .int .u64 (T : Int), .bool true])); have blt := HM.out.pend.lt; have hg := HM.out.lo; clear hW2 hP2)
    | (go_at_call 82; refine (gwants_some HM.out.pend LX.out LT.out HN.out).mono ?_; rintro e w3 ⟨r, m, rfl, rfl, lr, hr⟩; have LR := Lib.hid lr; have HR := Lib.hid hr; obtain ⟨p0, p1, p2, p3, p4, p5, p6⟩ := pendG_cells HM.out.pend; have pf := HM.out.pend.free; have hdd := HM.out.did; obtain ⟨g0, g1, g2, g3, g4⟩ := hdd.five; have glt := hdd.lt; have hb4 := HM.out.res; unfold noDid at hb4; obtain ⟨x0, x1, x2, x3, x4⟩ := hb4.five; have xf := hb4.free; have xlt := hb4.lt; clear lr hr hdd hb4))
  have e1 : ¬ bp = w2.heap.size := by omega
  have e2 : ¬ w2.heap.size = bp := by omega
  have e5 : ¬ bp = w.heap.size := by omega
  have e6 : ¬ w.heap.size = bp := by omega
  go_region_with ((go_at_call 18; (with_reducible refine (gbits_at LR.out HR.out _).mono ?_); rintro e w5 ⟨rfl, rfl⟩))
  all_goals
    go_wp2
    refine bodyPost_ret (v := .agg #[.int .u8 1, .int .i64 0, .int .u64 (T : Int), .int .u64 (T : Int), .bool true]) (by simp [results, Try.results55, go_sem, x0, x1, x2, x3, x4]) rfl ⟨rfl, ?_⟩
    refine midg_end HM.out H.out hbp (l' := (((pendG bk k x saw put nx ans).set 3 (.int .u64 (T : Int))).set 4 (.int .u64 (p : Int))).set 5 (.func (.func 84) #[] #[])) ?_ ?_ (by simp [pendG, fnV])
    · repeat (first | (with_reducible exact Part.refl _ _) | (with_reducible refine Part.drew ?_) | (with_reducible refine Part.drewN ?_ _) | refine Part.set ?_ (by simp) _)
    · repeat (first | (with_reducible exact HM.out.pend) | (with_reducible refine Row.drew ?_) | (with_reducible refine Row.drewN ?_ _) | (with_reducible refine Row.far ?_ (by first | exact e5 | exact e6) _) | (with_reducible refine Row.set ?_ _ _))
end Go.Proofs.Ytcocegneegjcpaa
