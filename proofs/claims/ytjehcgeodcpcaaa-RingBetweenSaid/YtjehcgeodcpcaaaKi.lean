/- THE WALKS of package ring: Start. -/
import Derived.Test.YtjehcgeodcpcaaaKh
namespace Go.Proofs.Ytjehcgeodcpcaaa
open Go Go.RowKit

set_option maxHeartbeats 1600000
set_option maxRecDepth 100000
/-- an operation's numbers, as they come -/
structure FineN (wd k t n : Int) (q : Nat) : Prop where
  kind : k = 1 ∨ (k = 2 ∧ n = 0)
  t0 : 0 ≤ t
  tick : t / wd = (q : Int)
  top : q ≤ 4294967295
  num : 0 ≤ n ∧ n ≤ 4294967295
theorem fineN_of {wd k t n : Int} (hw : 1 ≤ wd) (hn : U64 n) (h : checkE wd k t n = 0) : FineN wd k t n (t / wd).toNat := by
  have n0 := hn.1
  unfold checkE at h
  split at h
  · omega
  · split at h
    · omega
    · split at h
      · omega
      · rename_i a b c
        have t0 : 0 ≤ t := by omega
        have hd : 0 ≤ t / wd := Int.ediv_nonneg t0 (by omega)
        exact ⟨by omega, t0, by omega, by omega, ⟨n0, by omega⟩⟩
theorem FineN.check {wd k t n : Int} {q : Nat} (h : FineN wd k t n q) : checkE wd k t n = 0 := by
  obtain ⟨a, b, c, d, e⟩ := h
  unfold checkE
  rw [c]
  rw [if_neg (by omega), if_neg (by omega), if_neg (by omega)]
theorem FineN.right {wd k t n : Int} {q : Nat} (h : FineN wd k t n q) : RightN k q n := by
  obtain ⟨a, b, c, d, e⟩ := h
  exact ⟨d, e.1, e.2, by omega⟩
theorem rcheck_at {wd k t n v : Int} (hw : 1 ≤ wd) (hw2 : wd ≤ 1152921504606846976) (ht : t ≤ 9223372036854775807) (hn : U64 n) (he : checkE wd k t n = v) (w : World) :
    Calls Try.prog 26 #[.agg #[.int .u8 k, .int .i64 t, .int .u64 n], .int .i64 wd] w fun e w' => e = .returned (.int .i64 v) ∧ Below w.heap.size w w' := he ▸ rcheck_any hw hw2 ht hn w
theorem roldest_at {w : World} {br bk bw : Nat} {wd : Int} {ws : List Int} (h : Rng w br bk bw wd ws) {t m : Nat} (ht : t ≤ 4294967295) (hm : t + 1 - ws.length = m) :
    Calls Try.prog 28 #[.pointer (some ⟨br, 0, none⟩), .int .i64 (t : Int)] w fun e w' => e = .returned (.int .i64 (m : Int)) ∧ w = w' := hm ▸ roldest_any h t ht
theorem nstart_nil (k t n : Int) (w : World) : Calls Try.prog 10 #[.pointer none, .agg #[.int .u8 k, .int .i64 t, .int .u64 n]] w fun e w' => e = .returned (.tuple #[.pointer none, .int .i64 1]) ∧ Below w.heap.size w w' := by
  go_enter Try.func10, Try.ntmps10
  go_wp2
  go_ret2
  refine ⟨rfl, ?_⟩
  repeat (first | exact Below.refl _ _ | refine Below.alloc ?_ (by simp; try omega) _ | refine Below.setCell ?_ (by simp) _)
theorem nstart_no {w : World} {br bk bw : Nat} {wd : Int} {ws : List Int} {k t n v : Int} (h : Rng w br bk bw wd ws) (ht : t ≤ 9223372036854775807) (hn : U64 n) (he : checkE wd k t n = v) (hv : v ≠ 0) :
    Calls Try.prog 10 #[.pointer (some ⟨br, 0, none⟩), .agg #[.int .u8 k, .int .i64 t, .int .u64 n]] w fun e w' => e = .returned (.tuple #[.pointer none, .int .i64 v]) ∧ Below w.heap.size w w' := by
  have hc := h.head.cell 1
  have hlt := h.head.lt
  have HW := Lib.hid h.wid
  have HN := Lib.hid hn
  have HE := Lib.hid he
  have HT := Lib.hid ht
  have dv : (v != 0) = true := by simpa using hv
  clear h hn he ht hv
  go_enter Try.func10, Try.ntmps10
  go_wp2_with fail
  go_region_with ((go_at_call 26; (with_reducible refine (rcheck_at HW.out.1 HW.out.2 HT.out HN.out HE.out _).mono ?_); rintro e w1 ⟨rfl, hb⟩; have HB := Lib.hid hb; clear hb))
  all_goals
    go_wp2
    go_ret2
    exact ⟨rfl, ((((Part.refl [] w).alloc _).drew.on HB.out).end_)⟩
/-- what Start leaves: an operation of its own -/
def BegunN (w : World) (l : List Value) (e : Ending) (w' : World) : Prop :=
  ∃ bp, e = .returned (.tuple #[.pointer (some ⟨bp, 0, none⟩), .int .i64 0]) ∧ w.heap.size ≤ bp ∧ Row w' bp 77 l ∧ Below w.heap.size w w'
theorem nstart_add {w : World} {br bk bw : Nat} {wd : Int} {ws : List Int} {t n : Int} {q : Nat} (h : Rng w br bk bw wd ws) (ht : t ≤ 9223372036854775807) (hf : FineN wd 1 t n q) :
    Calls Try.prog 10 #[.pointer (some ⟨br, 0, none⟩), .agg #[.int .u8 1, .int .i64 t, .int .u64 n]] w (BegunN w (pendN br (q : Int) (q : Int) n 0 0 (fnV 27) 0 0)) := by
  have hc := h.head.cell 1
  have hlt := h.head.lt
  have w1 := h.wid.1
  have w2 := h.wid.2
  have t0 := hf.t0
  have hq := hf.tick
  have hq1 := hf.top
  have HN : Hid (U64 n) := Lib.hid (by have := hf.num; unfold U64; omega)
  have HE := Lib.hid hf.check
  have HT := Lib.hid ht
  have HH := Lib.hid h.head
  have HR := Lib.hid h
  clear h hf
  go_enter Try.func10, Try.ntmps10
  go_wp2_with fail
  go_region_with ((go_at_call 26; (with_reducible refine (rcheck_at w1 w2 HT.out HN.out HE.out _).mono ?_); rintro e w3 ⟨rfl, hb⟩; have HB := Lib.hid hb; have hop : Row w3 w.heap.size 39 [.int .u8 1, .int .i64 t, .int .u64 n] := ((Row.new w _ _).drew).below hb (by simp); have o0 := hop.cell 0; have o1 := hop.cell 1; have o2 := hop.cell 2; have hw3 : w.heap.size < w3.heap.size := hop.lt; have hcr := ((HH.out.alloc _).drew.below hb (by simp; omega)).cell 1; clear hop hb))
  all_goals
    go_wp2
    go_quiet (fail)
    generalize hwq : w3.drewN nq = w4
    have p0 : w4.cell? ⟨w.heap.size, 0, none⟩ = some (.int .u8 1) := by rw [← hwq]; exact o0
    have p2 : w4.cell? ⟨w.heap.size, 2, none⟩ = some (.int .u64 n) := by rw [← hwq]; exact o2
    have hw4 : w.heap.size < w4.heap.size := by rw [← hwq]; exact hw3
    have HB4 : Hid (Below w.heap.size w w4) := Lib.hid (by rw [← hwq]; exact ((((Part.refl [] w).alloc _).drew.on HB.out).drewN _).end_)
    have HR4 : Hid (Rng w4 br bk bw wd ws) := Lib.hid (HR.out.on HB4.out)
    clear hwq o0 o1 o2 hcr hc
    go_wp2
    go_ret2
    refine ⟨w4.heap.size, rfl, by omega, ?_, ?_⟩
    · exact Row.new w4 _ (pendN br (q : Int) (q : Int) n 0 0 (fnV 27) 0 0)
    · repeat (first | exact HB4.out | refine Below.alloc ?_ (by omega) _ | refine Below.setCell ?_ (by simp; omega) _)
theorem nstart_sum {w : World} {br bk bw : Nat} {wd : Int} {ws : List Int} {t : Int} {q m : Nat} (h : Rng w br bk bw wd ws) (ht : t ≤ 9223372036854775807) (hf : FineN wd 2 t 0 q) (hm : q + 1 - ws.length = m) :
    Calls Try.prog 10 #[.pointer (some ⟨br, 0, none⟩), .agg #[.int .u8 2, .int .i64 t, .int .u64 0]] w (BegunN w (pendN br (m : Int) (q : Int) 0 0 0 (fnV 29) 0 0)) := by
  have hc := h.head.cell 1
  have hlt := h.head.lt
  have w1 := h.wid.1
  have w2 := h.wid.2
  have t0 := hf.t0
  have hq := hf.tick
  have hq1 := hf.top
  have HN : Hid (U64 0) := Lib.hid (by have := hf.num; unfold U64; omega)
  have HE := Lib.hid hf.check
  have HT := Lib.hid ht
  have HH := Lib.hid h.head
  have HR := Lib.hid h
  have HM := Lib.hid hm
  clear h hf hm
  go_enter Try.func10, Try.ntmps10
  go_wp2_with fail
  go_region_with ((go_at_call 26; (with_reducible refine (rcheck_at w1 w2 HT.out HN.out HE.out _).mono ?_); rintro e w3 ⟨rfl, hb⟩; have HB := Lib.hid hb; have hop : Row w3 w.heap.size 39 [.int .u8 2, .int .i64 t, .int .u64 0] := ((Row.new w _ _).drew).below hb (by simp); have o0 := hop.cell 0; have o1 := hop.cell 1; have o2 := hop.cell 2; have hw3 : w.heap.size < w3.heap.size := hop.lt; have hcr := ((HH.out.alloc _).drew.below hb (by simp; omega)).cell 1; clear hop hb))
  all_goals
    go_wp2
    go_quiet (fail)
    generalize hwq : w3.drewN nq = w4
    have p0 : w4.cell? ⟨w.heap.size, 0, none⟩ = some (.int .u8 2) := by rw [← hwq]; exact o0
    have p2 : w4.cell? ⟨w.heap.size, 2, none⟩ = some (.int .u64 0) := by rw [← hwq]; exact o2
    have hw4 : w.heap.size < w4.heap.size := by rw [← hwq]; exact hw3
    have HB4 : Hid (Below w.heap.size w w4) := Lib.hid (by rw [← hwq]; exact ((((Part.refl [] w).alloc _).drew.on HB.out).drewN _).end_)
    have HR4 : Hid (Rng w4 br bk bw wd ws) := Lib.hid (HR.out.on HB4.out)
    clear hwq o0 o1 o2 hcr hc
    go_wp2_with (go_at_call 28; refine (roldest_at (HR4.out.alloc _) hq1 HM.out).mono ?_; rintro e w5 ⟨rfl, rfl⟩)
    go_ret2
    refine ⟨w4.heap.size, rfl, by omega, ?_, ?_⟩
    · exact Row.new w4 _ (pendN br (m : Int) (q : Int) 0 0 0 (fnV 29) 0 0)
    · repeat (first | exact HB4.out | refine Below.alloc ?_ (by omega) _ | refine Below.setCell ?_ (by simp; omega) _)
theorem nstart_op {w : World} {br bk bw : Nat} {wd : Int} {ws : List Int} {k t n : Int} {q : Nat} (h : Rng w br bk bw wd ws) (ht : t ≤ 9223372036854775807) (hf : FineN wd k t n q) :
    Calls Try.prog 10 #[.pointer (some ⟨br, 0, none⟩), .agg #[.int .u8 k, .int .i64 t, .int .u64 n]] w (BegunN w (opNL br (newN ws.length k q n))) := by
  obtain rfl | ⟨rfl, rfl⟩ := hf.kind
  · exact nstart_add h ht hf
  · exact nstart_sum h ht hf rfl
end Go.Proofs.Ytjehcgeodcpcaaa
