/- THE WALK of the statements' own question 'lives' of package gauges. -/
import Derived.Test.YtcocegneegjcpaaGh
namespace Go.Proofs.Ytcocegneegjcpaa
open Go Go.RowKit

section
variable {w : World} {bg bk bw bp : Nat}
theorem lv_add (h : Gau w bg bk bw 0) : Calls Try.prog 48 #[.pointer (some ⟨bg, 0, none⟩), .float .f64 4609434218613702656] w (WholeG w bg bk bw 4609434218613702656 (.float .f64 4609434218613702656)) := by
  have e : doneW 3 4609434218613702656 0 = 4609434218613702656 := by decide +kernel
  have := gadd_any (x := 4609434218613702656) h (by unfold B64; omega)
  rwa [e] at this
theorem lv_max (h : Gau w bg bk bw 4609434218613702656) : Calls Try.prog 49 #[.pointer (some ⟨bg, 0, none⟩), .float .f64 4602678819172646912] w (WholeG w bg bk bw 4609434218613702656 (.float .f64 4609434218613702656)) := by
  have e : doneW 4 4602678819172646912 4609434218613702656 = 4609434218613702656 := by decide +kernel
  have := gmax_any (x := 4602678819172646912) h (by unfold B64; omega)
  rwa [e] at this
theorem lv_min (h : Gau w bg bk bw 4609434218613702656) : Calls Try.prog 50 #[.pointer (some ⟨bg, 0, none⟩), .float .f64 4602678819172646912] w (WholeG w bg bk bw 4602678819172646912 (.float .f64 4602678819172646912)) := by
  have e : doneW 5 4602678819172646912 4609434218613702656 = 4602678819172646912 := by decide +kernel
  have := gmin_any (x := 4602678819172646912) h (by unfold B64; omega)
  rwa [e] at this
theorem lv_bits (w : World) : Calls Try.prog 18 #[.float .f64 4607182418800017408] w fun e w' => e = .returned (.int .u64 4607182418800017408) ∧ w = w' := by
  have e : GM.bitsOf 4607182418800017408 = 4607182418800017408 := by decide +kernel
  have := gbits_any (b := 4607182418800017408) (by unfold B64; omega) w
  rwa [e] at this
theorem lv_above (w : World) : Calls Try.prog 52 #[.float .f64 4607182418800017408, .float .f64 0] w fun e w' => e = .returned (.bool true) ∧ w = w' := by
  have e : GM.above 4607182418800017408 0 = true := by decide +kernel
  have := gabove_any (a := 4607182418800017408) (b := 0) (by unfold B64; omega) (by unfold B64; omega) w
  rwa [e] at this
def oA0 : OpG := newG 3 4607182418800017408
def oA1 : OpG := ⟨3, 4607182418800017408, 1, 4602678819172646912, 4609434218613702656, 0⟩
def oA2 : OpG := ⟨3, 4607182418800017408, 2, 4602678819172646912, 4609434218613702656, 4609434218613702656⟩
def oB2 : OpG := ⟨3, 4607182418800017408, 0, 4602678819172646912, 4609434218613702656, 0⟩
theorem lv_addB : putG 3 4607182418800017408 4602678819172646912 = some 4609434218613702656 := by decide +kernel
theorem okA0 : OkG oA0 := OkG.new (by decide) (by unfold B64; omega)
theorem okA1 : OkG oA1 := ⟨by decide, by unfold oA1 B64; simp, by decide, fun _ => rfl, fun _ => ⟨lv_addB, by unfold oA1 B64; simp, by unfold oA1 B64; simp⟩, by unfold oA1 B64; simp⟩
theorem okA2 : OkG oA2 := ⟨by decide, by unfold oA2 B64; simp, by decide, by simp [oA2], by simp [oA2], by unfold oA2 B64; simp⟩
theorem okB2 : OkG oB2 := ⟨by decide, by unfold oB2 B64; simp, by decide, fun _ => rfl, by simp [oB2], by unfold oB2 B64; simp⟩
theorem lv_start (h : Gau w bg bk bw 4602678819172646912) : Calls Try.prog 11 #[.pointer (some ⟨bg, 0, none⟩), .agg #[.int .u8 3, .float .f64 4607182418800017408]] w (BegunG w (opG bk oA0)) :=
  gstart_op h.head (by unfold B64; omega) (by decide)
theorem lv_load (h : Gau w bg bk bw 4602678819172646912) (hp : Row w bp 115 (opG bk oA0)) :
    Calls Try.prog 14 #[.pointer (some ⟨bp, 0, none⟩)] w (StepsG w bk bw bp 4602678819172646912 oA1 (.tuple #[.agg #[.int .u8 1, .int .i64 0, .int .u64 4602678819172646912, .int .u64 4602678819172646912, .bool true], .bool false])) := by
  have e : stepG 4602678819172646912 oA0 = oA1 := by simp [stepG, oA0, newG, lv_addB, oA1]
  have := gstep_op h.words h.ok hp okA0
  rw [e] at this
  exact this
theorem lv_hit (h : Gau w bg bk bw 4602678819172646912) (hp : Row w bp 115 (opG bk oA1)) :
    Calls Try.prog 14 #[.pointer (some ⟨bp, 0, none⟩)] w (StepsG w bk bw bp 4609434218613702656 oA2 (.tuple #[.agg #[.int .u8 5, .int .i64 0, .int .u64 4602678819172646912, .int .u64 4609434218613702656, .bool true], .bool true])) := by
  have e : stepG 4602678819172646912 oA1 = oA2 := rfl
  have := gstep_op h.words h.ok hp okA1
  rw [e] at this
  exact this
theorem lv_miss (h : Gau w bg bk bw 4609434218613702656) (hp : Row w bp 115 (opG bk oA1)) :
    Calls Try.prog 14 #[.pointer (some ⟨bp, 0, none⟩)] w (StepsG w bk bw bp 4609434218613702656 oB2 (.tuple #[.agg #[.int .u8 5, .int .i64 0, .int .u64 4609434218613702656, .int .u64 4609434218613702656, .bool false], .bool false])) := by
  have e : stepG 4609434218613702656 oA1 = oB2 := by simp [stepG, oA1, oB2]
  have e2 : wordG 4609434218613702656 oA1 = 4609434218613702656 := by simp [wordG, oA1]
  have e3 : didG 4609434218613702656 oA1 = .agg #[.int .u8 5, .int .i64 0, .int .u64 4609434218613702656, .int .u64 4609434218613702656, .bool false] := by simp [didG, oA1]
  have := gstep_op h.words h.ok hp okA1
  rw [e, e2, e3] at this
  exact this
end

set_option maxRecDepth 100000 in
set_option maxHeartbeats 6400000 in
theorem glives_any (w : World) : Calls Try.prog 7 #[] w fun e w' => e = .returned (.bool true) ∧ Below w.heap.size w w' := by
  have f1 : (FloatKind.f64.format.order 4609434218613702656 4609434218613702656 == some .eq) = true := by decide +kernel
  have f2 : (FloatKind.f64.format.order 4602678819172646912 4602678819172646912 == some .eq) = true := by decide +kernel
  have f1' := bne_of f1
  have f2' := bne_of f2
  have r1 := fun w => run_bits 4607182418800017408 w
  go_enter Try.func7, Try.ntmps7
  go_wp2_with (first
    | (go_at_call 8; refine (gnew_any _).mono ?_; rintro e w1 ⟨bg, bk, bw, rfl, hg, hk, hw, hS, hb⟩; have HW := Lib.hid hw; have HG := Lib.hid hg; have HK := Lib.hid hk; have HS := Lib.hid hS; have HB := Lib.hid hb; clear hg hk hw hS hb)
    | (go_at_call 48; (with_reducible refine (lv_add HS.out).mono ?_); rintro e w2 ⟨rfl, hS2, hP2⟩; have HS2 := Lib.hid hS2; have HP2 := Lib.hid hP2; clear hS2 hP2)
    | (go_at_call 49; (with_reducible refine (lv_max HS2.out).mono ?_); rintro e w3 ⟨rfl, hS3, hP3⟩; have HS3 := Lib.hid hS3; have HP3 := Lib.hid hP3; clear hS3 hP3)
    | (go_at_call 50; (with_reducible refine (lv_min HS3.out).mono ?_); rintro e w4 ⟨rfl, hS4, hP4⟩; have HS4 := Lib.hid hS4; have HP4 := Lib.hid hP4; clear hS4 hP4)
    | (go_at_call 18; refine (lv_bits _).mono ?_; rintro e wx ⟨rfl, rfl⟩)
    | (go_at_call 52; refine (lv_above _).mono ?_; rintro e wx ⟨rfl, rfl⟩)
    | (go_at_call 11; (with_reducible refine (lv_start HS4.out).mono ?_); rintro e w5 ⟨ba, rfl, hn5, hr5, hb5⟩; have HN5 := Lib.hid hn5; have HR5 := Lib.hid hr5; have HB5 := Lib.hid hb5; have HS5 := Lib.hid (HS4.out.on hb5); clear hn5 hr5 hb5)
    | (go_at_call 11; (with_reducible refine (lv_start HS5.out).mono ?_); rintro e w6 ⟨bb, rfl, hn6, hr6, hb6⟩; have HN6 := Lib.hid hn6; have HR6 := Lib.hid hr6; have HB6 := Lib.hid hb6; have HS6 := Lib.hid (HS5.out.on hb6); have HA6 := Lib.hid (HR5.out.below hb6 HR5.out.lt); have hne : bb ≠ ba := (by have := HR5.out.lt; omega); have HNE := Lib.hid hne; clear hn6 hr6 hb6 hne)
    | (go_at_call 14; (with_reducible refine (lv_load HS6.out HA6.out).mono ?_); rintro e w7 ⟨rfl, hS7, hR7, hP7⟩; have HS7 := Lib.hid (HS6.out.next hP7 hS7 (HS6.out.pend_ne HA6.out) HS6.out.ok); have HR7 := Lib.hid hR7; have HP7 := Lib.hid hP7; have HZ7 := Lib.hid (HR6.out.part hP7 (by simp; exact ⟨HR6.out.ne HS6.out.words.row (by decide), HNE.out⟩)); clear hS7 hR7 hP7)
    | (go_at_call 14; (with_reducible refine (lv_load HS7.out HZ7.out).mono ?_); rintro e w8 ⟨rfl, hS8, hR8, hP8⟩; have HS8 := Lib.hid (HS7.out.next hP8 hS8 (HS7.out.pend_ne HZ7.out) HS7.out.ok); have HR8 := Lib.hid hR8; have HP8 := Lib.hid hP8; have HA8 := Lib.hid (HR7.out.part hP8 (by simp; exact ⟨HR7.out.ne HS7.out.words.row (by decide), fun e => HNE.out e.symm⟩)); clear hS8 hR8 hP8)
    | (go_at_call 14; (with_reducible refine (lv_hit HS8.out HA8.out).mono ?_); rintro e w9 ⟨rfl, hS9, hR9, hP9⟩; have HS9 := Lib.hid (HS8.out.next hP9 hS9 (HS8.out.pend_ne HA8.out) (by unfold B64; omega)); have HR9 := Lib.hid hR9; have HP9 := Lib.hid hP9; have HZ9 := Lib.hid (HR8.out.part hP9 (by simp; exact ⟨HR8.out.ne HS8.out.words.row (by decide), HNE.out⟩)); clear hS9 hR9 hP9)
    | (go_at_call 14; (with_reducible refine (lv_miss (HS9.out.alloc _) (HZ9.out.alloc _)).mono ?_); rintro e w10 ⟨rfl, hS10, hR10, hP10⟩; have HS10 := Lib.hid ((HS9.out.alloc _).next hP10 hS10 (HS9.out.pend_ne HZ9.out) (by unfold B64; omega)); have HR10 := Lib.hid hR10; have HP10 := Lib.hid hP10; have HA10 := Lib.hid ((HR9.out.alloc _).part hP10 (by simp; exact ⟨HR9.out.ne HS9.out.words.row (by decide), fun e => HNE.out e.symm⟩)); clear hS10 hR10 hP10)
    | (go_at_call 15; (with_reducible refine (gdone_op (HA10.out.alloc _) okA2.ph).mono ?_); rintro e wx ⟨rfl, rfl⟩)
    | (go_at_call 15; (with_reducible refine (gdone_op (HR10.out.alloc _) okB2.ph).mono ?_); rintro e wx ⟨rfl, rfl⟩)
    | (go_at_call 17; (with_reducible refine (ganswer_op (HA10.out.alloc _)).mono ?_); rintro e wx ⟨rfl, rfl⟩)
    | (go_at_call 19; (with_reducible refine (gget_any (HS10.out.alloc _)).mono ?_); rintro e w11 ⟨rfl, hS11, hP11⟩; have HP11 := Lib.hid hP11; clear hS11 hP11))
  go_ret
  have P4 : Part [bw, ba, bb] w1 w4 := ((HP2.out.then_ HP3.out).then_ HP4.out).mono (fun k _ hm => by simp at hm ⊢; simp [hm])
  have P6 := (P4.on HB5.out).on HB6.out
  have P8 := (P6.then_ (HP7.out.mono (fun k _ hm => by simp at hm ⊢; omega))).then_ (HP8.out.mono (S' := [bw, ba, bb]) (fun k _ hm => by simp at hm ⊢; omega))
  have P9 := P8.then_ (HP9.out.mono (S' := [bw, ba, bb]) (fun k _ hm => by simp at hm ⊢; omega))
  have P10 := (P9.alloc _).then_ (HP10.out.mono (S' := [bw, ba, bb]) (fun k _ hm => by simp at hm ⊢; omega))
  have P11 := (P10.alloc _).then_ (HP11.out.mono (S' := [bw, ba, bb]) (fun k _ hm => by simp at hm ⊢; simp [hm]))
  have s1 := HB.out.size
  have s4 := P4.size
  have s5 := HB5.out.size
  have b1 := HW.out
  have b2 := HN5.out
  have b3 := HN6.out
  exact ⟨rfl, HB.out.trans (P11.below (B := w.heap.size) s1 (by simp; omega))⟩
end Go.Proofs.Ytcocegneegjcpaa
