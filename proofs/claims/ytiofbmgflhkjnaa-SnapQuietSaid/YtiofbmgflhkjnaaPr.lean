/- THE WALK of the law 'SnapQuiet'. -/
import Derived.Test.YtiofbmgflhkjnaaPq
namespace Go.Proofs.Ytiofbmgflhkjnaa
open Go Go.RowKit

theorem quiet_done {W wr : World} {n br bk bw bp s : Nat} {ws : List Int} {t : Int} {b : Bool} (h : QuietSt W n br bk bw bp ws t s wr) (hb : decide (s = lastQ n t) = b) :
    Calls Try.prog 16 #[.pointer (some ⟨bp, 0, none⟩)] wr fun e w' => e = .returned (.bool b) ∧ wr = w' := by
  subst hb
  by_cases e : s = lastQ n t
  · obtain ⟨b, ⟨⟨va, vw, hr⟩, _⟩⟩ := h.over e
    rw [decide_eq_true e]
    exact pdone_yes hr
  · obtain ⟨c, la, lw, va, vw, hS, _⟩ := h.run (by have := h.le; omega)
    rw [decide_eq_false e]
    exact pdone_no hS.pend
theorem QuietSt.draws {W wr : World} {n br bk bw bp s : Nat} {ws : List Int} {t : Int} (h : QuietSt W n br bk bw bp ws t s wr) (m : Nat) : QuietSt W n br bk bw bp ws t s (wr.drewN m) :=
  ⟨h.st.on (Below.draws (Below.refl _ _) m), h.lop, h.le, fun hs => by obtain ⟨c, la, lw, va, vw, hS, hp⟩ := h.run hs; exact ⟨c, la, lw, va, vw, ⟨hS.pend, hS.ahead, hS.words, hS.apart⟩, hp⟩, fun hs => by obtain ⟨b, hE⟩ := h.over hs; exact ⟨b, hE⟩⟩
theorem quiet_answer {W wr : World} {n br bk bw bp s : Nat} {ws : List Int} {t : Int} {cl : Bool} {q : Int} (h : QuietSt W n br bk bw bp ws t s wr) (hs : s = lastQ n t) (hcl : (!decide (t = 1)) = cl) (hq : (if t = 1 then 1 else 2) = q) :
    Calls Try.prog 18 #[.pointer (some ⟨bp, 0, none⟩)] wr fun e w' => ∃ b' cb, e = .returned (.agg #[.slice (some ⟨b', 0, none⟩) n cb, .bool cl, .int .i64 q]) ∧ wr.heap.size ≤ b' ∧ w'.ownsRow wr.heap.size 60 2 (.slice (some ⟨b', 0, none⟩) n cb) n (regCells ws) ∧ Below wr.heap.size wr w' := by
  obtain ⟨b, ⟨⟨va, vw, hr⟩, hb, _⟩⟩ := h.over hs
  subst hcl
  subst hq
  have hl := h.st.len
  have := panswer_any hr hb rfl h.st.regs.pos (by have := h.st.regs.top; omega)
  rw [hl] at this
  by_cases e : t = 1
  · rw [if_pos e] at this ⊢
    exact this
  · rw [if_neg e] at this ⊢
    exact this
theorem rall_n {w : World} {br bk bw n : Nat} {ws : List Int} (h : Regs w br bk bw ws) (hn : ws.length = n) :
    Calls Try.prog 20 #[.pointer (some ⟨br, 0, none⟩)] w fun e w' => ∃ b, e = .returned (.slice (some ⟨b, 0, none⟩) n n) ∧ w.heap.size ≤ b ∧ Row w' b 60 (regCells ws) ∧ Below w.heap.size w w' := by
  subst hn
  exact rall_any h
set_option maxRecDepth 100000
theorem rscan_n {w : World} {br bk bw n : Nat} {ws : List Int} (h : Regs w br bk bw ws) (hn : ws.length = n) {t : Int} (h1 : 2 ≤ t) (h2 : t ≤ 1024) :
    Calls Try.prog 24 #[.pointer (some ⟨br, 0, none⟩), .int .i64 t] w fun e w' => ∃ b, e = .returned (.tuple #[.slice (some ⟨b, 0, none⟩) n n, .int .i64 0]) ∧ w.heap.size ≤ b ∧ Row w' b 60 (regCells ws) ∧ Below w.heap.size w w' := by
  subst hn
  exact rscan_any h h1 h2
theorem squiet_no {n : Int} (h : n < 1 ∨ 64 < n) {A : Option Addr} {len cap : Nat} {t : Int} (W : World) :
    Calls Try.prog 7 #[.int .i64 n, .slice A len cap, .int .i64 t] W fun e w' => e = .returned (.bool true) ∧ Below W.heap.size W w' := by
  have H := Lib.hid h
  clear h
  go_enter Try.func7, Try.ntmps7
  go_wp2_with (first
    | (go_at_call 11; refine (rbegins_any _).mono ?_; rintro e w0 ⟨rfl, hb⟩; have HB0 := Lib.hid hb; clear hb)
    | (go_at_call 10; refine (rnew_no H.out).mono ?_; rintro e wx ⟨rfl, rfl⟩))
  go_ret
  exact ⟨rfl, HB0.out⟩
theorem quiet_begin {W w1 w2 : World} {n br bk bw bp : Nat} {ws : List Int} {t : Int} (h : SnSt W n br bk bw ws w1) (hbp : w1.heap.size ≤ bp) (hr : Row w2 bp 82 (pendP bk 3 0 0 t (fnV 32) 0 nilS nilS 0 nilS false 0)) (hb : Below w1.heap.size w1 w2) :
    QuietSt W n br bk bw bp ws t 0 w2 := by
  have hpos := h.regs.pos
  have hlen := h.len
  have hl : 0 < lastQ n t := by unfold lastQ; split <;> omega
  exact ⟨h.on hb, by have := h.low.size; omega, by omega, fun _ => ⟨0, [], [], _, _, ⟨hr, World.ownsRow_nil _ _ _ _, World.ownsRow_nil _ _ _ _, .inl rfl⟩, .inl ⟨by omega, rfl, rfl, rfl, rfl⟩⟩, fun e => by omega⟩

set_option maxHeartbeats 3200000 in
theorem squiet_yes {n : Nat} (h1 : 1 ≤ n) (h64 : n ≤ 64) {A : Option Addr} {cap : Nat} {ops : List (Int × Int × Int × Int)} {t : Int} (W : World) (hE : Ext4 .u8 .i64 .u32 .i64 W A ops) (hv : ∀ op ∈ ops, U32 op.2.2.1) (hr : ops.length * 32 ≤ 140737488351232) :
    Calls Try.prog 7 #[.int .i64 (n : Int), .slice A ops.length cap, .int .i64 t] W fun e w' => e = .returned (.bool true) ∧ Below W.heap.size W w' := by
  have HE := Lib.hid hE
  have HV := Lib.hid hv
  have H1 := Lib.hid h1
  have H64 := Lib.hid h64
  clear hE h1 hv
  go_enter Try.func7, Try.ntmps7
  go_wp2_with (first
    | (go_at_call 11; refine (rbegins_any _).mono ?_; rintro e w0 ⟨rfl, hb⟩; have HB0 := Lib.hid hb; clear hb)
    | (go_at_call 10; refine (rnew_yes w0 H1.out H64.out).mono ?_; rintro e w1 ⟨br, bk, bw, rfl, hc, hk, hw, hS, hb⟩; have HS1 : Hid (SnSt W n br bk bw (List.replicate n 0) w1) := Lib.hid ⟨hS, by simp, Nat.le_trans HB0.out.size hw, HB0.out.trans (hb.mono HB0.out.size)⟩; clear hc hk hw hS hb))
  go_loopw [9] (fun i wr => ∃ k : Nat, k ≤ ops.length ∧ i = .int .i64 k ∧ ∃ ws, SnSt W n br bk bw ws wr) (fun i _ => ops.length - (intOf i).toNat)
  case atStart => exact ⟨0, Nat.zero_le _, rfl, _, HS1.out⟩
  case round =>
    obtain ⟨k, hk, rfl, ws, hO⟩ := hrel
    have HO := Lib.hid hO
    clear hO HS1
    by_cases hlt : k < ops.length
    · obtain ⟨op, hop⟩ : ∃ op, ops[k]? = some op := ⟨ops[k], List.getElem?_eq_getElem hlt⟩
      obtain ⟨b, o, rfl, hb, c0, c1, c2, c3⟩ := (HE.out.on HO.out.low) k op hop
      have HU := Lib.hid (HV.out op (List.mem_of_getElem? hop))
      have hk4 : k * 4 ≤ 52776558132480 := by omega
      clear hop
      by_cases hk1 : op.1 = 1
      · have hkb : (op.1 == 1) = true := by simpa using hk1
        clear hk1
        go_wp2
        go_region_with (go_at_call 22; refine (rput_all (HO.out.drew.regs) HU.out).mono ?_; rintro e w3 ⟨⟨u, z, rfl⟩, hR3, hP3⟩; have HR3 := Lib.hid hR3; have HP3 := Lib.hid hP3; clear hR3 hP3)
        all_goals
          go_wp2
          go_roundw
          case rel => exact ⟨k + 1, by omega, by go_num, _, by first | exact HO.out.drew.step HR3.out (putAt_length _ _ _) HP3.out | exact (HO.out.drew.step HR3.out (putAt_length _ _ _) HP3.out).drew⟩
          case measure => simp [intOf]; omega
      · have hkb : (op.1 == 1) = false := by simpa using hk1
        clear hk1
        go_wp2
        go_roundw
        case rel => exact ⟨k + 1, by omega, by go_num, _, HO.out⟩
        case measure => simp [intOf]; omega
    · obtain rfl : k = ops.length := by omega
      by_cases htr : 1 ≤ t ∧ t ≤ 1024
      · have HR : Hid (rightS ws.length 3 0 0 t = true) := Lib.hid (by simp [rightS]; omega)
        go_wp2_with (go_at_call 12; refine (pstart_scan t HO.out.regs HR.out).mono ?_; rintro e w2 ⟨bp, rfl, hbp, hrp, hb⟩; have HQ := Lib.hid (quiet_begin HO.out hbp hrp hb); clear hbp hrp hb)
        have HT := Lib.hid htr.1
        have HLAST : Hid (lastQ n t ≤ 2 * n) := Lib.hid (by unfold lastQ; split <;> omega)
        go_loopw [11] (fun i wr => ∃ s : Nat, i = .int .i64 s ∧ QuietSt W n br bk bw bp ws t s wr) (fun i _ => 2 * n + 1 - (intOf i).toNat)
        case atStart => exact ⟨0, rfl, HQ.out⟩
        case round =>
          obtain ⟨s, rfl, hQ⟩ := hrel
          have hle := hQ.le
          have HQ := Lib.hid hQ
          have hl2 := HLAST.out
          have hmul : IntKind.i64.wrap (2 * (n : Int)) = 2 * (n : Int) := by rw [IntKind.wrap_i64]; omega
          clear hQ
          by_cases hlast : s < lastQ n t
          · have HD : Hid (decide (s = lastQ n t) = false) := Lib.hid (by rw [decide_eq_false_iff_not]; omega)
            have HL := Lib.hid hlast
            have hs2 : s < 2 * n := by omega
            have hs3 : (s : Int) ≤ 2 * (n : Int) := by omega
            clear hle hlast hl2
            go_wp2_with (first
              | (go_at_call 16; refine (quiet_done HQ.out HD.out).mono ?_; rintro e wx ⟨rfl, rfl⟩)
              | (go_at_call 14; refine (quiet_step HT.out HQ.out HL.out).mono ?_; rintro e w5 ⟨⟨v, b, rfl⟩, hQ5⟩; have HQ5 := Lib.hid hQ5; clear hQ5))
            go_roundw
            case rel => exact ⟨s + 1, by go_num, HQ5.out⟩
            case measure => simp [intOf]; omega
          · have HD : Hid (decide (s = lastQ n t) = true) := Lib.hid (by rw [decide_eq_true_iff]; omega)
            have HSL : Hid (s = lastQ n t) := Lib.hid (by omega)
            clear hle hlast hl2
            by_cases ht1 : t = 1
            · have HCL : Hid ((!decide (t = 1)) = false) := Lib.hid (by simp [ht1])
              have HQQ : Hid ((if t = 1 then (1 : Int) else 2) = 1) := Lib.hid (by simp [ht1])
              have hsn : s = n := by have := HSL.out; unfold lastQ at this; rw [if_pos ht1] at this; exact this
              have HLn := Lib.hid HO.out.len
              subst ht1
              go_wp2_with (first
                | (go_at_call 16; refine (quiet_done HQ.out HD.out).mono ?_; rintro e wx ⟨rfl, rfl⟩)
                | (go_at_call 18; refine (quiet_answer HQ.out HSL.out HCL.out HQQ.out).mono ?_; rintro e w6 ⟨b6, c6, rfl, hb6, ho6, hbl6⟩; have HO6 := Lib.hid ho6; have HB6 := Lib.hid hbl6; have HS6 := Lib.hid (HQ.out.st.on hbl6); clear hb6 ho6 hbl6)
                | (go_at_call 24; refine (rscan_one (HS6.out.on ((Below.refl _ _).alloc (Nat.le_refl _) _)).regs).mono ?_; rintro e w7 ⟨rfl, hb7⟩; have HB7 := Lib.hid hb7; have HS7 := Lib.hid ((HS6.out.on ((Below.refl _ _).alloc (Nat.le_refl _) _)).on hb7); have hrx : Row w7 w6.heap.size 43 [.slice (some ⟨b6, 0, none⟩) n c6, .bool false, .int .i64 1] := (Row.new w6 _ _).below hb7 (by simp); obtain ⟨x0, x1, x2⟩ := hrx.three; have HX7 := Lib.hid hrx; have HO7 := Lib.hid (own_part (HO6.out.alloc _) (Part.of_below hb7 (Nat.le_refl _) []) (by simp)); clear hb7 hrx))
              have hnb : ((s : Int) == (n : Int)) = true := by simp [hsn]
              have HL : Hid (n ≤ 1000000) := Lib.hid (by omega)
              have hs6 := HB7.out.size
              clear hsn
              go_region_held3 (fun w' => w'.cell? ⟨w6.heap.size, 0, none⟩ = some (.slice (some ⟨b6, 0, none⟩) n c6) ∧ w'.cell? ⟨w6.heap.size, 1, none⟩ = some (.bool false) ∧ w'.cell? ⟨w6.heap.size, 2, none⟩ = some (.int .i64 1))
                (first | (with_reducible exact ⟨x0, x1, x2⟩) | (with_reducible exact ⟨y0, y1, y2⟩) | go_keep)
                (first
                | (go_at_call 20; refine (rall_n (HS7.out.drew).regs HLn.out).mono ?_; rintro e w8 ⟨b8, rfl, hb8, hr8, hbl8⟩; have HR8 := Lib.hid hr8; have HS8 := Lib.hid (HS7.out.drew.on hbl8); have HO8 := Lib.hid (own_part HO7.out.drew (Part.of_below hbl8 (Nat.le_refl _) []) (by simp)); have hrx8 : Row w8 w6.heap.size 43 [.slice (some ⟨b6, 0, none⟩) n c6, .bool false, .int .i64 1] := (HX7.out.drew).below hbl8 HX7.out.lt; obtain ⟨y0, y1, y2⟩ := hrx8.three; clear hrx8 hb8 hr8 hbl8)
                | (go_at_call 19; refine (dregs_yes (own_liesR HO8.out) HR8.out.liesR HLn.out HL.out).mono ?_; rintro e w9 ⟨rfl, m9, rfl⟩; have HS9 := Lib.hid (HS8.out.on (Below.draws (Below.refl _ _) m9))))
              all_goals
                go_wp2
                go_ret
                exact ⟨rfl, HS9.out.low⟩
            · have HCL : Hid ((!decide (t = 1)) = true) := Lib.hid (by simp [ht1])
              have HQQ : Hid ((if t = 1 then (1 : Int) else 2) = 2) := Lib.hid (by simp [ht1])
              have hsn : s = 2 * n := by have := HSL.out; unfold lastQ at this; rw [if_neg ht1] at this; exact this
              have HLn := Lib.hid HO.out.len
              have ht2 : 2 ≤ t := by omega
              have HT2 := Lib.hid ht2
              have HT3 := Lib.hid htr.2
              have htb : (t == 1) = false := by simpa using ht1
              have hs3 : (s : Int) ≤ 2 * (n : Int) := by omega
              clear ht1 ht2 htr
              go_wp2_with (first
                | (go_at_call 16; refine (quiet_done HQ.out HD.out).mono ?_; rintro e wx ⟨rfl, rfl⟩)
                | (go_at_call 18; refine (quiet_answer HQ.out HSL.out HCL.out HQQ.out).mono ?_; rintro e w6 ⟨b6, c6, rfl, hb6, ho6, hbl6⟩; have HO6 := Lib.hid ho6; have HB6 := Lib.hid hbl6; have HS6 := Lib.hid (HQ.out.st.on hbl6); clear hb6 ho6 hbl6)
                | (go_at_call 24; refine (rscan_n (HS6.out.on ((Below.refl _ _).alloc (Nat.le_refl _) _)).regs HLn.out HT2.out HT3.out).mono ?_; rintro e w7 ⟨b7, rfl, hb7lo, hr7, hb7⟩; have HB7 := Lib.hid hb7; have HR7 := Lib.hid hr7; have HS7 := Lib.hid ((HS6.out.on ((Below.refl _ _).alloc (Nat.le_refl _) _)).on hb7); have hrx : Row w7 w6.heap.size 43 [.slice (some ⟨b6, 0, none⟩) n c6, .bool true, .int .i64 2] := (Row.new w6 _ _).below hb7 (by simp); obtain ⟨x0, x1, x2⟩ := hrx.three; have HX7 := Lib.hid hrx; have HO7 := Lib.hid (own_part (HO6.out.alloc _) (Part.of_below hb7 (Nat.le_refl _) []) (by simp)); clear hb7 hrx hr7 hb7lo))
              have hnb : ((s : Int) == 2 * (n : Int)) = true := by rw [beq_iff_eq]; omega
              have HL : Hid (n ≤ 1000000) := Lib.hid (by omega)
              have hs6 := HB7.out.size
              clear hsn hs3
              go_region_held3 (fun w' => w'.cell? ⟨w6.heap.size, 0, none⟩ = some (.slice (some ⟨b6, 0, none⟩) n c6) ∧ w'.cell? ⟨w6.heap.size, 1, none⟩ = some (.bool true) ∧ w'.cell? ⟨w6.heap.size, 2, none⟩ = some (.int .i64 2))
                (first | (with_reducible exact ⟨x0, x1, x2⟩) | (with_reducible exact ⟨z0, z1, z2⟩) | (with_reducible exact ⟨y0, y1, y2⟩) | go_keep)
                (first
                | (go_at_call 20; (with_reducible refine (rall_n (HS7.out.drew).regs HLn.out).mono ?_); rintro e w8 ⟨b8, rfl, hb8, hr8, hbl8⟩; have HR8 := Lib.hid hr8; have HS8 := Lib.hid (HS7.out.drew.on hbl8); have HR78 := Lib.hid ((HR7.out.drew).below hbl8 HR7.out.lt); have HO8 := Lib.hid (own_part HO7.out.drew (Part.of_below hbl8 (Nat.le_refl _) []) (by simp)); have hrx8 : Row w8 w6.heap.size 43 [.slice (some ⟨b6, 0, none⟩) n c6, .bool true, .int .i64 2] := (HX7.out.drew).below hbl8 HX7.out.lt; have HX8 := Lib.hid hrx8; obtain ⟨y0, y1, y2⟩ := hrx8.three; clear hrx8 hb8 hr8 hbl8)
                | (go_at_call 19; (with_reducible refine (dregs_yes (own_liesR HO8.out) HR8.out.liesR HLn.out HL.out).mono ?_); rintro e w9 ⟨rfl, m9, rfl⟩; have HS9 := Lib.hid (HS8.out.on (Below.draws (Below.refl _ _) m9)))
                | (go_at_call 20; (with_reducible refine (rall_n HS9.out.regs HLn.out).mono ?_); rintro e w10 ⟨b10, rfl, hb10, hr10, hbl10⟩; have HR10 := Lib.hid hr10; have HS10 := Lib.hid (HS9.out.on hbl10); have HR710 := Lib.hid ((HR78.out.drewN m9).below hbl10 HR78.out.lt); have hrx8 : Row w10 w6.heap.size 43 [.slice (some ⟨b6, 0, none⟩) n c6, .bool true, .int .i64 2] := (HX8.out.drewN m9).below hbl10 HX8.out.lt; obtain ⟨z0, z1, z2⟩ := hrx8.three; clear hrx8 hb10 hr10 hbl10)
                | (go_at_call 19; refine (dregs_yes HR710.out.liesR HR10.out.liesR HLn.out HL.out).mono ?_; rintro e w11 ⟨rfl, m11, rfl⟩; have HS11 := Lib.hid (HS10.out.on (Below.draws (Below.refl _ _) m11))))
              all_goals
                go_wp2
                go_ret
                exact ⟨rfl, HS11.out.low⟩
      · have HR : Hid (rightS ws.length 3 0 0 t = false) := Lib.hid (by simp [rightS]; omega)
        rcases (show t < 1 ∨ 1024 < t by omega) with hb | hb
        · have hb1 : decide (t < 1) = true := by simpa using hb
          clear htr hb
          go_wp2_with (go_at_call 12; refine (pstart_no HO.out.regs HR.out).mono ?_; rintro e w2 ⟨rfl, hb⟩; have HB2 := Lib.hid hb; clear hb)
          go_ret
          exact ⟨rfl, (HO.out.on HB2.out).low⟩
        · have hb1 : decide (t < 1) = false := by simp; omega
          have hb2 : decide (1024 < t) = true := by simpa using hb
          clear htr hb
          go_wp2_with (go_at_call 12; refine (pstart_no HO.out.regs HR.out).mono ?_; rintro e w2 ⟨rfl, hb⟩; have HB2 := Lib.hid hb; clear hb)
          go_ret
          exact ⟨rfl, (HO.out.on HB2.out).low⟩
end Go.Proofs.Ytiofbmgflhkjnaa
