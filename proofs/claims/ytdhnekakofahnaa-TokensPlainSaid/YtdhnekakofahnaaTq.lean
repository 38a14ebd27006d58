/- THE WALK of the law 'TokensPlain'. -/
import Derived.Test.YtdhnekakofahnaaTo
import Derived.Deep.RegionHeld3
namespace Go.Proofs.Ytdhnekakofahnaa
open Go Go.RowKit

/-- two buckets that the call W has made -/
structure DuoT (W : World) (a1 a2 a3 b1 b2 b3 : Nat) (ev bu Ta Tb : Int) (op : List Value) (wr : World) : Prop where
  a : Buck wr a1 a2 a3 ev bu Ta
  b : Buck wr b1 b2 b3 ev bu Tb
  ne : b3 ≠ a3
  la : W.heap.size < a3
  lb : W.heap.size < b3
  box : Row wr W.heap.size 93 op
  low : Below W.heap.size W wr
section
variable {W wr w1 : World} {a1 a2 a3 b1 b2 b3 bp : Nat} {ev bu Ta Tb T' : Int} {op l l' : List Value}
theorem DuoT.alloc (h : DuoT W a1 a2 a3 b1 b2 b3 ev bu Ta Tb op wr) (o : Obj) : DuoT W a1 a2 a3 b1 b2 b3 ev bu Ta Tb op (wr.alloc o) := ⟨h.a.alloc o, h.b.alloc o, h.ne, h.la, h.lb, h.box.alloc o, h.low.alloc h.low.size o⟩
theorem DuoT.drew (h : DuoT W a1 a2 a3 b1 b2 b3 ev bu Ta Tb op wr) : DuoT W a1 a2 a3 b1 b2 b3 ev bu Ta Tb op wr.drew := ⟨h.a.drew, h.b.drew, h.ne, h.la, h.lb, h.box.drew, h.low.drew⟩
theorem DuoT.drewN (h : DuoT W a1 a2 a3 b1 b2 b3 ev bu Ta Tb op wr) (n : Nat) : DuoT W a1 a2 a3 b1 b2 b3 ev bu Ta Tb op (wr.drewN n) := ⟨h.a.drewN n, h.b.drewN n, h.ne, h.la, h.lb, h.box.drewN n, ⟨h.low.os, h.low.tape, h.low.output, h.low.size, h.low.block⟩⟩
theorem DuoT.on (h : DuoT W a1 a2 a3 b1 b2 b3 ev bu Ta Tb op wr) (hb : Below wr.heap.size wr w1) : DuoT W a1 a2 a3 b1 b2 b3 ev bu Ta Tb op w1 := ⟨h.a.on hb, h.b.on hb, h.ne, h.la, h.lb, h.box.below hb h.box.lt, h.low.trans (hb.mono h.low.size)⟩
theorem DuoT.off (h : DuoT W a1 a2 a3 b1 b2 b3 ev bu Ta Tb op wr) {S : List Nat} {k : Nat} (hS : ∀ q, q ∈ S → k ≤ q) (hP : Part S wr w1) (l1 : a1 < k) (l2 : a2 < k) (l3 : a3 < k) (l4 : b1 < k) (l5 : b2 < k) (l6 : b3 < k) (l7 : W.heap.size < k) : DuoT W a1 a2 a3 b1 b2 b3 ev bu Ta Tb op w1 :=
  have n : ∀ q, q < k → q ∉ S := fun q hq hm => by have := hS q hm; omega
  ⟨h.a.part hP (n _ l1) (n _ l2) (n _ l3), h.b.part hP (n _ l4) (n _ l5) (n _ l6), h.ne, h.la, h.lb, h.box.part hP (n _ l7), h.low.trans (hP.below h.low.size (fun q hq => by have := hS q hq; omega))⟩
theorem DuoT.nextA (h : DuoT W a1 a2 a3 b1 b2 b3 ev bu Ta Tb op wr) (hB : Buck w1 a1 a2 a3 ev bu T') (hP : Part [a3] wr w1) : DuoT W a1 a2 a3 b1 b2 b3 ev bu T' Tb op w1 :=
  ⟨hB, h.b.part hP (by simpa using h.b.head.ne h.a.words.row (by decide)) (by simpa using h.b.words.head.ne h.a.words.row (by decide)) (by simpa using h.ne), h.ne, h.la, h.lb, h.box.part hP (by have := h.la; simp; omega), h.low.trans (hP.below h.low.size (by have := h.la; simp; omega))⟩
theorem DuoT.nextB (h : DuoT W a1 a2 a3 b1 b2 b3 ev bu Ta Tb op wr) (hB : Buck w1 b1 b2 b3 ev bu T') (hP : Part [b3] wr w1) : DuoT W a1 a2 a3 b1 b2 b3 ev bu Ta T' op w1 :=
  ⟨h.a.part hP (by simpa using h.a.head.ne h.b.words.row (by decide)) (by simpa using h.a.words.head.ne h.b.words.row (by decide)) (by simpa using fun e => h.ne e.symm), hB, h.ne, h.la, h.lb, h.box.part hP (by have := h.lb; simp; omega), h.low.trans (hP.below h.low.size (by have := h.lb; simp; omega))⟩
theorem DuoT.stepA (h : DuoT W a1 a2 a3 b1 b2 b3 ev bu Ta Tb op wr) (hp : Row wr bp 148 l) (hlp : W.heap.size < bp) (hB : Buck w1 a1 a2 a3 ev bu T') (hP : Part [a3, bp] wr w1) : DuoT W a1 a2 a3 b1 b2 b3 ev bu T' Tb op w1 :=
  ⟨hB, h.b.part hP (by simp; exact ⟨h.b.head.ne h.a.words.row (by decide), h.b.head.ne hp (by decide)⟩) (by simp; exact ⟨h.b.words.head.ne h.a.words.row (by decide), h.b.words.head.ne hp (by decide)⟩) (by simp; exact ⟨h.ne, h.b.words.row.ne hp (by decide)⟩), h.ne, h.la, h.lb,
    h.box.part hP (by have := h.la; simp; omega), h.low.trans (hP.below h.low.size (by have := h.la; simp; omega))⟩
end

/-- stepped through alone -/
theorem fin_take {ev bu T t n : Int} : stepW T (newO 1 t n) = T ∧ stepW T (stepO ev bu T (newO 1 t n)) = takeW ev bu T t n ∧
    ∃ saw put, stepO ev bu T (stepO ev bu T (newO 1 t n)) = ⟨1, t, n, 2, saw, put, takeB ev bu T t n, waitT ev bu T t n, 0⟩ := by
  by_cases hg : max T t + n * ev ≤ t + bu * ev
  · exact ⟨by simp [stepW, newO], by simp [stepW, stepO, newO, hg, takeW, takeB], T, max T t + n * ev, by simp [stepO, newO, hg, takeB, waitT]⟩
  · exact ⟨by simp [stepW, newO], by simp [stepW, stepO, newO, hg, takeW, takeB], 0, 0, by by_cases hn : bu < n <;> simp [stepO, newO, hg, hn, takeB, waitT, stopV]⟩
theorem fin_peek {ev bu T t : Int} : stepW T (newO 2 t 0) = T ∧ stepW T (stepO ev bu T (newO 2 t 0)) = T ∧
    ∃ saw put, stepO ev bu T (stepO ev bu T (newO 2 t 0)) = ⟨2, t, 0, 2, saw, put, false, 0, roomV ev bu T t / ev⟩ :=
  ⟨by simp [stepW, newO], by simp [stepW, stepO, newO], 0, 0, by simp [stepO, newO]⟩
/-- what a step leaves, the state and the word said outright -/
theorem tstep_is {w : World} {bt bk bw bp : Nat} {ev bu T T' : Int} {o o' : OpT} {did : Value} {last : Bool} (h : Buck w bt bk bw ev bu T) (hp : Row w bp 148 (opTL bt o)) (ho : OkT ev bu o) (hT : stepW T o = T') (ho' : stepO ev bu T o = o') (hd : didO T o = did) (hl : decide (o'.ph = 2) = last) :
    Calls Try.prog 53 #[.pointer (some ⟨bp, 0, none⟩)] w (StepsT w bt bk bw bp ev bu T' o' (.tuple #[did, .bool last])) := by
  subst hT
  subst ho'
  subst hd
  subst hl
  exact tstep_op h hp ho
theorem tanswer_is {w : World} {bp bt : Nat} {k t n saw put wait left : Int} {ph : Nat} {ok : Bool} (h : Row w bp 148 (opTL bt ⟨k, t, n, ph, saw, put, ok, wait, left⟩)) :
    Calls Try.prog 56 #[.pointer (some ⟨bp, 0, none⟩)] w fun e w' => e = .returned (.agg #[.bool ok, .int .i64 wait, .int .i64 left]) ∧ Below w.heap.size w w' := tanswer_any h
theorem tdone_is {w : World} {bp bt : Nat} {k t n saw put wait left : Int} {ok : Bool} (h : Row w bp 148 (opTL bt ⟨k, t, n, 2, saw, put, ok, wait, left⟩)) :
    Calls Try.prog 55 #[.pointer (some ⟨bp, 0, none⟩)] w fun e w' => e = .returned (.bool true) ∧ w = w' := tdone_op h (Nat.le_refl 2)

set_option maxRecDepth 100000
theorem tplain_no {ev bu k t n : Int} (h : fitsB ev bu = false) {A : Option Addr} {len cap : Nat} (W : World) :
    Calls Try.prog 14 #[.int .i64 ev, .int .i64 bu, .slice A len cap, .agg #[.int .u8 k, .int .i64 t, .int .i64 n]] W fun e w' => e = .returned (.bool true) ∧ Below W.heap.size W w' := by
  have H := Lib.hid h
  clear h
  go_enter Try.func14, Try.ntmps14
  go_wp2_with (first
    | (go_at_call 50; refine (tbegins_any _).mono ?_; rintro e w0 ⟨rfl, hb⟩; have HB0 := Lib.hid hb; clear hb)
    | (go_at_call 48; refine (tnew_no H.out).mono ?_; rintro e wx ⟨rfl, rfl⟩))
  go_ret
  exact ⟨rfl, (((Part.refl [] W).alloc _).on HB0.out).end_⟩
set_option maxHeartbeats 12800000 in
theorem tplain_wrong {ev bu k t n : Int} (h : fitsB ev bu = true) {A : Option Addr} {cap : Nat} {ops : List (Int × Int × Int)} (W : World) (hE : Ext3 .u8 .i64 .i64 W A ops) (hr : ops.length * 24 ≤ 140737488351232) (hk : trightB k t n = false) :
    Calls Try.prog 14 #[.int .i64 ev, .int .i64 bu, .slice A ops.length cap, .agg #[.int .u8 k, .int .i64 t, .int .i64 n]] W fun e w' => e = .returned (.bool true) ∧ Below W.heap.size W w' := by
  have HE := Lib.hid hE
  have HF := Lib.hid h
  have HR := Lib.hid hk
  clear hE h hk
  go_enter Try.func14, Try.ntmps14
  go_wp2_with (first
    | (go_at_call 50; refine (tbegins_any _).mono ?_; rintro e w0 ⟨rfl, hb⟩; have HB0 := Lib.hid hb; clear hb)
    | (go_at_call 48; (with_reducible refine (tnew_yes w0 HF.out).mono ?_); rintro e w1 ⟨a1, a2, a3, rfl, hc, hk, hw, hS, hb⟩; have HL1 := Lib.hid hw; have HS1 := Lib.hid hS; have HB1 := Lib.hid hb; clear hc hk hw hS hb)
    | (go_at_call 48; (with_reducible refine (tnew_yes w1 HF.out).mono ?_); rintro e w2 ⟨b1, b2, b3, rfl, hc, hk, hw, hS, hb⟩; have HL2 := Lib.hid hw; have HS2 := Lib.hid hS; have HB2 := Lib.hid hb; clear hc hk hw hS hb))
  have hbox : Row w0 W.heap.size 93 [.int .u8 k, .int .i64 t, .int .i64 n] := (Row.new W _ _).below HB0.out (by simp)
  have hT : DuoT W a1 a2 a3 b1 b2 b3 ev bu 0 0 [.int .u8 k, .int .i64 t, .int .i64 n] w2 := by
    have z0 := hbox.lt
    have z1 := HL1.out
    have z2 := HL2.out
    have z3 := HB1.out.size
    have z4 := HS1.out.words.row.lt
    exact ⟨HS1.out.on HB2.out, HS2.out, by omega, by omega, by omega, (hbox.below HB1.out hbox.lt).below HB2.out (by omega), (((((Part.refl [] W).alloc _).on HB0.out).on HB1.out).on HB2.out).end_⟩
  have HT := Lib.hid hT
  clear hT hbox HB0 HB1 HB2 HS1 HS2 HL1 HL2
  go_loopw [13] (fun u wr => ∃ j : Nat, j ≤ ops.length ∧ u = .int .i64 j ∧ ∃ T, DuoT W a1 a2 a3 b1 b2 b3 ev bu T T [.int .u8 k, .int .i64 t, .int .i64 n] wr) (fun u _ => ops.length - (intOf u).toNat)
  case atStart => exact ⟨0, Nat.zero_le _, rfl, _, HT.out⟩
  case round =>
    obtain ⟨j, hj, rfl, T, hO⟩ := hrel
    have HO := Lib.hid hO
    clear hO HT
    by_cases hlt : j < ops.length
    · obtain ⟨op, hop⟩ : ∃ op, ops[j]? = some op := ⟨ops[j], List.getElem?_eq_getElem hlt⟩
      obtain ⟨b', o, rfl, hlt', q0, q1, q2⟩ := (HE.out.on HO.out.low) j op hop
      have hlt2 : (j : Int) < (ops.length : Int) := by omega
      have hbl : b' < W.heap.size := by
        obtain ⟨b'', o', e, hlt2, _⟩ := HE.out j op hop
        cases e
        exact hlt2
      have HBL := Lib.hid hbl
      have HQ1 := Lib.hid q1
      have HQ2 := Lib.hid q2
      clear hop hbl
      go_wp2
      go_region_with (first
        | (go_at_call 58; refine (ttake_all HO.out.a.drew).mono ?_; rintro e w3 ⟨rfl, hB, hP⟩; have HO3 := Lib.hid (HO.out.drew.nextA hB hP); have hc3 : w3.cell? ⟨b', o + j * 3 + 1, none⟩ = some (.int .i64 op.2.1) := (World.cell?_of_block (w := wr) (a := ⟨b', o + j * 3 + 1, none⟩) (hP.block b' hlt' (by have := HO.out.la; have := HBL.out; simp; omega))).trans HQ1.out; have hc4 : w3.cell? ⟨b', o + j * 3 + 2, none⟩ = some (.int .i64 op.2.2) := (World.cell?_of_block (w := wr) (a := ⟨b', o + j * 3 + 2, none⟩) (hP.block b' hlt' (by have := HO.out.la; have := HBL.out; simp; omega))).trans HQ2.out; clear hB hP))
      all_goals
        go_wp2_with fail
        go_region_with (first
          | (go_at_call 58; refine (ttake_all HO3.out.b.drew).mono ?_; rintro e w4 ⟨rfl, hB, hP⟩; have HO4 := Lib.hid (HO3.out.drew.nextB hB hP); clear hB hP)
          | (go_at_call 58; refine (ttake_all HO3.out.b.drew.drew).mono ?_; rintro e w4 ⟨rfl, hB, hP⟩; have HO4 := Lib.hid (HO3.out.drew.drew.nextB hB hP); clear hB hP))
      all_goals
        go_wp2_with fail
        go_roundw
        case rel => exact ⟨j + 1, by omega, by go_num, _, by first | exact HO4.out | exact HO4.out.drew⟩
        case measure => simp [intOf]; omega
    · obtain rfl : j = ops.length := by omega
      obtain ⟨o0, o1, o2⟩ : wr.cell? ⟨W.heap.size, 0, none⟩ = some (.int .u8 k) ∧ wr.cell? ⟨W.heap.size, 1, none⟩ = some (.int .i64 t) ∧ wr.cell? ⟨W.heap.size, 2, none⟩ = some (.int .i64 n) := ⟨HO.out.box.cell 0, HO.out.box.cell 1, HO.out.box.cell 2⟩
      go_wp2_with (go_at_call 51; refine (tstart_no HR.out).mono ?_; rintro e w5 ⟨rfl, hb5⟩; have HO5 := Lib.hid (HO.out.on hb5); clear hb5)
      go_ret
      exact ⟨rfl, HO5.out.low⟩
end Go.Proofs.Ytdhnekakofahnaa
