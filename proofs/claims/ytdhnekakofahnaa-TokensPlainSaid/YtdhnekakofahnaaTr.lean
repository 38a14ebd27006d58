/- THE WALK of the law 'TokensPlain', of a Take. -/
import Derived.Test.YtdhnekakofahnaaTq
namespace Go.Proofs.Ytdhnekakofahnaa
open Go Go.RowKit

set_option maxRecDepth 100000
set_option maxHeartbeats 12800000 in
theorem tplain_take {ev bu t n : Int} (h : fitsB ev bu = true) {A : Option Addr} {cap : Nat} {ops : List (Int × Int × Int)} (W : World) (hE : Ext3 .u8 .i64 .i64 W A ops) (hr : ops.length * 24 ≤ 140737488351232) (hk : RightT 1 t n) :
    Calls Try.prog 14 #[.int .i64 ev, .int .i64 bu, .slice A ops.length cap, .agg #[.int .u8 1, .int .i64 t, .int .i64 n]] W fun e w' => e = .returned (.bool true) ∧ Below W.heap.size W w' := by
  have HE := Lib.hid hE
  have HF := Lib.hid h
  have HR := Lib.hid hk
  clear hE h hk
  go_enter Try.func14, Try.ntmps14
  go_wp2_with (first
    | (go_at_call 50; refine (tbegins_any _).mono ?_; rintro e w0 ⟨rfl, hb⟩; have HB0 := Lib.hid hb; clear hb)
    | (go_at_call 48; (with_reducible refine (tnew_yes w0 HF.out).mono ?_); rintro e w1 ⟨a1, a2, a3, rfl, hc, hk, hw, hS, hb⟩; have HL1 := Lib.hid hw; have HS1 := Lib.hid hS; have HB1 := Lib.hid hb; clear hc hk hw hS hb)
    | (go_at_call 48; (with_reducible refine (tnew_yes w1 HF.out).mono ?_); rintro e w2 ⟨b1, b2, b3, rfl, hc, hk, hw, hS, hb⟩; have HL2 := Lib.hid hw; have HS2 := Lib.hid hS; have HB2 := Lib.hid hb; clear hc hk hw hS hb))
  have hbox : Row w0 W.heap.size 93 [.int .u8 1, .int .i64 t, .int .i64 n] := (Row.new W _ _).below HB0.out (by simp)
  have hT : DuoT W a1 a2 a3 b1 b2 b3 ev bu 0 0 [.int .u8 1, .int .i64 t, .int .i64 n] w2 := by
    have z0 := hbox.lt
    have z1 := HL1.out
    have z2 := HL2.out
    have z3 := HB1.out.size
    have z4 := HS1.out.words.row.lt
    exact ⟨HS1.out.on HB2.out, HS2.out, by omega, by omega, by omega, (hbox.below HB1.out hbox.lt).below HB2.out (by omega), (((((Part.refl [] W).alloc _).on HB0.out).on HB1.out).on HB2.out).end_⟩
  have HT := Lib.hid hT
  clear hT hbox HB0 HB1 HB2 HS1 HS2 HL1 HL2
  go_loopw [13] (fun u wr => ∃ j : Nat, j ≤ ops.length ∧ u = .int .i64 j ∧ ∃ T, DuoT W a1 a2 a3 b1 b2 b3 ev bu T T [.int .u8 1, .int .i64 t, .int .i64 n] wr) (fun u _ => ops.length - (intOf u).toNat)
  case atStart => exact ⟨0, Nat.zero_le _, rfl, _, HT.out⟩
  case round =>
    obtain ⟨j, hj, rfl, T, hO⟩ := hrel
    have HO := Lib.hid hO
    clear hO HT
    by_cases hlt : j < ops.length
    · obtain ⟨op, hop⟩ : ∃ op, ops[j]? = some op := ⟨ops[j], List.getElem?_eq_getElem hlt⟩
      obtain ⟨b', o, rfl, hlt', q0, q1, q2⟩ := (HE.out.on HO.out.low) j op hop
      have hlt2 : (j : Int) < (ops.length : Int) := by omega
      have hbl : b' < W.heap.size := by
        obtain ⟨b'', o', e, hlt2, _⟩ := HE.out j op hop
        cases e
        exact hlt2
      have HBL := Lib.hid hbl
      have HQ1 := Lib.hid q1
      have HQ2 := Lib.hid q2
      clear hop hbl
      go_wp2
      go_region_with (first
        | (go_at_call 58; refine (ttake_all HO.out.a.drew).mono ?_; rintro e w3 ⟨rfl, hB, hP⟩; have HO3 := Lib.hid (HO.out.drew.nextA hB hP); have hc3 : w3.cell? ⟨b', o + j * 3 + 1, none⟩ = some (.int .i64 op.2.1) := (World.cell?_of_block (w := wr) (a := ⟨b', o + j * 3 + 1, none⟩) (hP.block b' hlt' (by have := HO.out.la; have := HBL.out; simp; omega))).trans HQ1.out; have hc4 : w3.cell? ⟨b', o + j * 3 + 2, none⟩ = some (.int .i64 op.2.2) := (World.cell?_of_block (w := wr) (a := ⟨b', o + j * 3 + 2, none⟩) (hP.block b' hlt' (by have := HO.out.la; have := HBL.out; simp; omega))).trans HQ2.out; clear hB hP))
      all_goals
        go_wp2_with fail
        go_region_with (first
          | (go_at_call 58; refine (ttake_all HO3.out.b.drew).mono ?_; rintro e w4 ⟨rfl, hB, hP⟩; have HO4 := Lib.hid (HO3.out.drew.nextB hB hP); clear hB hP)
          | (go_at_call 58; refine (ttake_all HO3.out.b.drew.drew).mono ?_; rintro e w4 ⟨rfl, hB, hP⟩; have HO4 := Lib.hid (HO3.out.drew.drew.nextB hB hP); clear hB hP))
      all_goals
        go_wp2_with fail
        go_roundw
        case rel => exact ⟨j + 1, by omega, by go_num, _, by first | exact HO4.out | exact HO4.out.drew⟩
        case measure => simp [intOf]; omega
    · obtain rfl : j = ops.length := by omega
      obtain ⟨o0, o1, o2⟩ : wr.cell? ⟨W.heap.size, 0, none⟩ = some (.int .u8 1) ∧ wr.cell? ⟨W.heap.size, 1, none⟩ = some (.int .i64 t) ∧ wr.cell? ⟨W.heap.size, 2, none⟩ = some (.int .i64 n) := ⟨HO.out.box.cell 0, HO.out.box.cell 1, HO.out.box.cell 2⟩
      obtain ⟨f1, f2, saw, put, f3⟩ := fin_take (ev := ev) (bu := bu) (T := T) (t := t) (n := n)
      have HS1 := Lib.hid f1
      have HS2 := Lib.hid f2
      have HS3 := Lib.hid f3
      have HK1 : Hid (OkT ev bu (newO 1 t n)) := Lib.hid (OkT.new HR.out)
      have HK2 : Hid (OkT ev bu (stepO ev bu T (newO 1 t n))) := Lib.hid HK1.out.step
      have HK3 : Hid (OkT ev bu ⟨1, t, n, 2, saw, put, takeB ev bu T t n, waitT ev bu T t n, 0⟩) := Lib.hid (by have := HK2.out.step (T := T); rwa [f3] at this)
      clear f1 f2 f3
      go_wp2_with (first
        | (go_at_call 51; refine (tstart_op HR.out).mono ?_; rintro e w5 ⟨bp, rfl, hbp5, hr5, hb5⟩; have HBP : Hid (W.heap.size < bp) := Lib.hid (by have := HO.out.box.lt; omega); have HR5 := Lib.hid hr5; have HO5 := Lib.hid (HO.out.on hb5); clear hbp5 hr5 hb5)
        | (go_at_call 53; (with_reducible refine (tstep_is HO5.out.a HR5.out HK1.out HS1.out rfl rfl rfl).mono ?_); rintro e w6 ⟨rfl, hB, hR, hP⟩; have HO6 := Lib.hid (HO5.out.stepA HR5.out HBP.out hB hP); have HR6 := Lib.hid hR; clear hB hR hP)
        | (go_at_call 53; (with_reducible refine (tstep_is HO6.out.a HR6.out HK2.out HS2.out HS3.out rfl rfl).mono ?_); rintro e w7 ⟨rfl, hB, hR, hP⟩; have HO7 := Lib.hid (HO6.out.stepA HR6.out HBP.out hB hP); have HR7 := Lib.hid hR; clear hB hR hP)
        | (go_at_call 53; (with_reducible refine (tstep_over HR7.out).mono ?_); rintro e w8 ⟨rfl, hb8⟩; have HO8 := Lib.hid (HO7.out.on hb8); have HR8 := Lib.hid (HR7.out.below hb8 HR7.out.lt); have hx8 := HO8.out.box; have x80 := hx8.cell 0; have x81 := hx8.cell 1; have x82 := hx8.cell 2; have x8lt := hx8.lt; clear hx8; clear hb8)
        | (go_at_call 58; refine (ttake_yes ((HO8.out.alloc _).alloc _).b HR.out).mono ?_; rintro e w9 ⟨rfl, hB, hP⟩; have HO9 := Lib.hid (((HO8.out.alloc _).alloc _).nextB hB hP); have HR9 := Lib.hid (((HR8.out.alloc _).alloc _).part hP (by simpa using HR8.out.ne HO8.out.b.words.row (by decide))); have hd9 : Row w9 w8.heap.size 62 [.int .u8 0, .int .i64 0, .int .u64 0, .int .u64 0, .bool false] := ((Row.new w8 _ _).alloc _).part hP (by have := HO8.out.b.words.row.lt; simp; omega); have hg9 : Row w9 (w8.heap.size + 1) 96 [.bool false, .int .i64 0, .int .i64 0] := (Row.new2 w8 _ _ _ rfl).part hP (by have := HO8.out.b.words.row.lt; simp; omega); obtain ⟨d0, d1, d2, d3, d4⟩ := hd9.five; have dlt := hd9.lt; have g0 := hg9.cell 0; have g1 := hg9.cell 1; have g2 := hg9.cell 2; have gf := hg9.free; have glt := hg9.lt; have HD9 := Lib.hid hd9; have HG9 := Lib.hid hg9; clear hd9 hg9 hB hP))
      generalize hz : ((w9.setCell ⟨w8.heap.size + 1, 0, none⟩ (.bool (takeB ev bu T t n))).setCell ⟨w8.heap.size + 1, 1, none⟩ (.int .i64 (waitT ev bu T t n))).setCell ⟨w8.heap.size + 1, 2, none⟩ (.int .i64 0) = wz
      have hPz : Part [w8.heap.size + 1] w9 wz := by
        rw [← hz]
        repeat (first | (with_reducible exact Part.refl _ _) | refine Part.set ?_ (by simp) _)
      have HOz : Hid (DuoT W a1 a2 a3 b1 b2 b3 ev bu (takeW ev bu T t n) (takeW ev bu T t n) [.int .u8 1, .int .i64 t, .int .i64 n] wz) := Lib.hid (HO9.out.off (k := w8.heap.size + 1) (by simp) hPz (by have := HO8.out.a.head.lt; omega) (by have := HO8.out.a.words.head.lt; omega) (by have := HO8.out.a.words.row.lt; omega) (by have := HO8.out.b.head.lt; omega) (by have := HO8.out.b.words.head.lt; omega) (by have := HO8.out.b.words.row.lt; omega) (by have := HO8.out.box.lt; omega))
      have HRz : Hid (Row wz bp 148 (opTL a1 ⟨1, t, n, 2, saw, put, takeB ev bu T t n, waitT ev bu T t n, 0⟩)) := Lib.hid (HR9.out.part hPz (by have := HR8.out.lt; simp; omega))
      have HDz : Hid (Row wz w8.heap.size 62 [.int .u8 0, .int .i64 0, .int .u64 0, .int .u64 0, .bool false]) := Lib.hid (HD9.out.part hPz (by simp))
      have HGz : Hid (Row wz (w8.heap.size + 1) 96 [.bool (takeB ev bu T t n), .int .i64 (waitT ev bu T t n), .int .i64 (0)]) := Lib.hid (by rw [← hz]; exact Row.of_eq (((HG9.out.set 0 _).set 1 _).set 2 _) rfl)
      clear d0 d1 d2 d3 d4 dlt g0 g1 g2 gf glt hPz hz
      have g0 := HGz.out.cell 0
      have g1 := HGz.out.cell 1
      have g2 := HGz.out.cell 2
      have glt := HGz.out.lt
      obtain ⟨v0, v1, v2, v3, v4⟩ := HDz.out.five
      have vlt := HDz.out.lt
      go_region_held3 (fun w' => w'.cell? ⟨w8.heap.size, 0, none⟩ = some (.int .u8 0) ∧ w'.cell? ⟨w8.heap.size, 1, none⟩ = some (.int .i64 0) ∧ w'.cell? ⟨w8.heap.size, 2, none⟩ = some (.int .u64 0) ∧ w'.cell? ⟨w8.heap.size, 3, none⟩ = some (.int .u64 0) ∧ w'.cell? ⟨w8.heap.size, 4, none⟩ = some (.bool false) ∧ w'.cell? ⟨w8.heap.size + 1, 0, none⟩ = some (.bool (takeB ev bu T t n)) ∧ w'.cell? ⟨w8.heap.size + 1, 1, none⟩ = some (.int .i64 (waitT ev bu T t n)) ∧ w'.cell? ⟨w8.heap.size + 1, 2, none⟩ = some (.int .i64 (0)))
        (first | (with_reducible exact ⟨d0, d1, d2, d3, d4, k0, k1, k2⟩) | (with_reducible exact ⟨v0, v1, v2, v3, v4, g0, g1, g2⟩) | go_keep)
        (first
        | (go_at_call 55; refine (tdone_is HRz.out.drew).mono ?_; rintro e wx ⟨rfl, rfl⟩)
        | (go_at_call 56; refine (tanswer_is HRz.out.drew).mono ?_; rintro e wA ⟨rfl, hbA⟩; have HOA := Lib.hid (HOz.out.drew.on hbA); have hdA := HDz.out.drew.below hbA HDz.out.lt; obtain ⟨d0, d1, d2, d3, d4⟩ := hdA.five; have dlt := hdA.lt; have hgA := HGz.out.drew.below hbA HGz.out.lt; have k0 := hgA.cell 0; have k1 := hgA.cell 1; have k2 := hgA.cell 2; have klt := hgA.lt; clear hbA hdA hgA)
        | (go_at_call 57; (with_reducible refine (tword_any HOA.out.a).mono ?_); rintro e wx ⟨rfl, rfl⟩)
        | (go_at_call 57; (with_reducible refine (tword_any HOA.out.b).mono ?_); rintro e wx ⟨rfl, rfl⟩))
      all_goals
        go_wp2_with fail
        go_ret
        exact ⟨rfl, HOA.out.low⟩
end Go.Proofs.Ytdhnekakofahnaa
