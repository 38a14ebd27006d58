/- THE WALK of the law 'TokensNil'. -/
import Derived.Test.YtdhnekakofahnaaTm
namespace Go.Proofs.Ytdhnekakofahnaa
open Go Go.RowKit

set_option maxRecDepth 100000
set_option maxHeartbeats 3200000
theorem tnil_any (k t n : Int) (w : World) : Calls Try.prog 10 #[.agg #[.int .u8 k, .int .i64 t, .int .i64 n]] w fun e w' => e = .returned (.bool true) ∧ Below w.heap.size w w' := by
  go_enter Try.func10, Try.ntmps10
  go_wp2_with (first
    | (go_at_call 58; refine (ttake_nil _ _ _).mono ?_; unfold zeroV; rintro e w1 ⟨rfl, hb⟩; have HB1 := Lib.hid hb; have HO1 : Hid (Row w1 w.heap.size 93 [.int .u8 k, .int .i64 t, .int .i64 n]) := Lib.hid ((Row.new w _ _).below hb (by simp)); have o0 := HO1.out.cell 0; have o1 := HO1.out.cell 1; have o2 := HO1.out.cell 2; have olt := HO1.out.lt; clear hb)
    | (go_at_call 59; refine (tpeek_nil _ _).mono ?_; rintro e w2 ⟨rfl, hb⟩; have HB2 := Lib.hid hb; have HO2 : Hid (Row w2 w.heap.size 93 [.int .u8 k, .int .i64 t, .int .i64 n]) := Lib.hid ((HO1.out.alloc _).below hb (by have := HO1.out.lt; simp; omega)); have p0 := HO2.out.cell 0; have p1 := HO2.out.cell 1; have p2 := HO2.out.cell 2; have plt := HO2.out.lt; clear hb)
    | (go_at_call 51; refine (tstart_nil _ _ _ _).mono ?_; rintro e w3 ⟨rfl, hb⟩; have HB3 := Lib.hid hb; clear hb)
    | (go_at_call 53; refine (tstep_nil _).mono ?_; rintro e w4 ⟨rfl, hb⟩; have HB4 := Lib.hid hb; clear hb)
    | (go_at_call 50; refine (tbegins_any _).mono ?_; rintro e w5 ⟨rfl, hb⟩; have HB5 := Lib.hid hb; clear hb; have hd : Row w5 w4.heap.size 62 [.int .u8 0, .int .i64 0, .int .u64 0, .int .u64 0, .bool false] := (Row.new w4 _ _).below HB5.out (by simp); obtain ⟨d0, d1, d2, d3, d4⟩ := hd.five; have dlt := hd.lt; have ha1 : Row (w1.alloc (.cells #[.bool false, .int .i64 0, .int .i64 0] 96)) w1.heap.size 96 [.bool false, .int .i64 0, .int .i64 0] := Row.new w1 _ _; have ha : Row w5 w1.heap.size 96 [.bool false, .int .i64 0, .int .i64 0] := ((((((ha1.below HB2.out ha1.lt)).below HB3.out (by have := HB2.out.size; have := ha1.lt; omega)).below HB4.out (by have := HB2.out.size; have := HB3.out.size; have := ha1.lt; omega)).alloc _).below HB5.out (by have := HB2.out.size; have := HB3.out.size; have := HB4.out.size; have := ha1.lt; simp; omega)); have a0 := ha.cell 0; have a1 := ha.cell 1; have a2 := ha.cell 2; have alt := ha.lt; clear hd ha ha1)
    | (go_at_call 57; refine (tword_nil _).mono ?_; rintro e wx ⟨rfl, rfl⟩)
    | (go_at_call 55; refine (tdone_nil _).mono ?_; rintro e wx ⟨rfl, rfl⟩)
    | (go_at_call 56; refine (tanswer_nil _).mono ?_; rintro e w6 ⟨rfl, hb⟩; have HB6 := Lib.hid hb; clear hb))
  go_ret
  exact ⟨rfl, ((((((((((Part.refl [] w).alloc _).on HB1.out).alloc _).on HB2.out).on HB3.out).on HB4.out).alloc _).on HB5.out).on HB6.out).end_⟩
end Go.Proofs.Ytdhnekakofahnaa
