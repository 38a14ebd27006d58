/- THE WALK of the law 'HistStill'. -/
import Derived.Test.YtiifhkfkcljoiaaFc
import Derived.Test.YtiifhkfkcljoiaaIq
import Derived.Deep.RegionHeld3
namespace Go.Proofs.Ytiifhkfkcljoiaa
open Go Go.RowKit
set_option maxRecDepth 100000
theorem hoverF_at {w : World} {bp bh m : Nat} {nx : Value} {o : OpH} {s : ShM} (hp : Row w bp 85 (pendH bh nx s)) (hn : NextH bp m o w nx s) (he : o.en = true) :
    Calls Try.prog 16 #[.pointer (some ⟨bp, 0, none⟩)] w fun e w' => e = .returned (.tuple #[.agg #[.int .u8 0, .int .i64 0, .int .u64 0, .int .u64 0, .bool false], .bool true]) ∧ Below w.heap.size w w' := by
  obtain rfl := hn.nil_ he
  exact step_ended hp
/-- what is wanted: a snapshot in a box, its buckets -/
structure WantW (W : World) (m : Nat) (f : ShotH) (bW bB : Nat) (xs : List (Value × ShM)) (wr : World) : Prop where
  box : Row wr bW 44 [.int .u64 f.c, .int .u64 f.su, .int .i64 f.le, .int .i64 f.gr, .slice (some ⟨bB, 0, none⟩) m m]
  bus : Row wr bB 38 (u64s f.bu)
  lo1 : W.heap.size ≤ bW
  lo2 : W.heap.size ≤ bB
  ap : ∀ x, x ∈ xs → x.2.bv.ownBlock ≠ some bB
  len : f.bu.length = m
section
variable {W wr w1 : World} {bh bk bw m q b bW bB : Nat} {l h d : Int} {ws : List Int} {os os0 : List OpH} {bs : List Nat} {xs : List (Value × ShM)} {vp vk : Value} {f : ShotH}
theorem WantW.on (hM : WantW W m f bW bB xs wr) (hb : Below wr.heap.size wr w1) : WantW W m f bW bB xs w1 := ⟨hM.box.below hb hM.box.lt, hM.bus.below hb hM.bus.lt, hM.lo1, hM.lo2, hM.ap, hM.len⟩
theorem WantW.drew (hM : WantW W m f bW bB xs wr) : WantW W m f bW bB xs wr.drew := hM.on (Below.refl _ _).drew
theorem still_step {o : OpH} {x : Value × ShM} {e : Ending} (hM : StillW W bh bk bw l h d m ws os os0 bs xs vp vk wr) (hm : m ≠ 1) (hq : os[q]? = some o) (hb : bs[q]? = some b) (hx : xs[q]? = some x) (he : o.en = false) (hm0 : 0 < m) (hs : SteppedH wr b bh bk bw l h d m ws o x.2 e w1) :
    ∃ xs', StillW W bh bk bw l h d m (stepW m ws o) (os.set q (stepH m ws o)) os0 bs xs' vp vk w1 ∧ ∀ f bW bB, WantW W m f bW bB xs wr → WantW W m f bW bB xs' w1 := by
  obtain ⟨x', h1, h2, T, h3, h4⟩ := hM.step hm hq hb hx he hm0 hs
  have hp := hM.many.pends.all q o b x hq hb hx
  have hmx := List.mem_of_getElem? hx
  refine ⟨xs.set q x', h1, fun f bW bB hW => ?_⟩
  have n1 : bW ∉ b :: bw :: T := fun hk => by
    simp only [List.mem_cons] at hk
    rcases hk with e' | e' | hk
    · exact hW.box.ne hp.row (by decide) e'
    · exact hW.box.ne hM.many.hist.words.row (by decide) e'
    · obtain ⟨_, l', a1, _⟩ := hp.bu _ (h3 _ hk)
      exact hW.box.ne a1 (by decide) rfl
  have n2 : bB ∉ b :: bw :: T := fun hk => by
    simp only [List.mem_cons] at hk
    rcases hk with e' | e' | hk
    · exact hW.bus.ne hp.row (by decide) e'
    · exact hW.bus.ne hM.many.hist.words.row (by decide) e'
    · exact hW.ap x hmx (h3 _ hk)
  refine ⟨hW.box.part h4 n1, hW.bus.part h4 n2, hW.lo1, hW.lo2, fun y hy e' => ?_, hW.len⟩
  rcases List.mem_or_eq_of_mem_set hy with hy | rfl
  · exact hW.ap y hy e'
  · rcases h2 _ e' with e2 | e2
    · exact hW.ap x hmx e2
    · have := hW.bus.lt
      omega
/-- behind a store into the buckets that are wanted -/
theorem StillW.offU (hM : StillW W bh bk bw l h d m ws os os0 bs xs vp vk wr) (hW : WantW W m f bW bB xs wr) (hm : m ≠ 1) (hP : Part [bB] wr w1) : StillW W bh bk bw l h d m ws os os0 bs xs vp vk w1 := by
  have b := hM.many.hist
  have hpk := hM.many.pends
  refine ⟨⟨⟨b.head.part hP (by simpa using b.head.ne hW.bus (by decide)), b.words.part hP (by simpa using b.words.head.ne hW.bus (by decide)) (by simpa using b.words.row.ne hW.bus (by decide)), b.len, b.few⟩, hM.many.lo, hM.many.low.trans (hP.below hM.many.low.size (by simpa using hW.lo2)), own_part hM.many.ps hP (fun q hq => by simpa using own_off hM.many.ps hW.bus (by decide) q hq), ?_⟩, own_part hM.ks hP (fun q hq => by simpa using own_off hM.ks hW.bus (by decide) q hq), hM.sc.part hP (by simpa using hM.sc.ne hW.bus (by decide)), hM.key, hM.crowd, hM.one⟩
  refine hpk.keep (.of_part hP) (fun b' _ q hq => ⟨38, u64s f.bu, ?_, .inl ?_⟩) (fun b' hb' => ?_) (fun x hx q hq => ?_)
  · rw [List.mem_singleton.1 hq]; exact hW.bus
  · have := hW.len
    simp [boxB, u64s, this, hm]
  · obtain ⟨_, _, l', hr⟩ := hpk.lt b' hb'
    simpa using hr.ne hW.bus (by decide)
  · simp only [List.mem_singleton]
    rintro rfl
    exact hW.ap x hx hq
end
theorem busF {w : World} {lo bh m : Nat} {os : List OpH} {bs : List Nat} {xs : List (Value × ShM)} (hM : PendsH w lo bh m os bs xs) : ∀ x, x ∈ xs → ∀ q, x.2.bv.ownBlock = some q → q < w.heap.size := fun x hx q hq => by
  obtain ⟨p, hp⟩ := List.getElem?_of_mem hx
  obtain ⟨o, b', x', _, _, h3, hpp⟩ := hM.get (q := p) (by rw [hM.len, ← hM.lenx]; exact lt_of_get hp)
  rw [hp] at h3
  cases h3
  obtain ⟨_, l', hr, _⟩ := hpp.bu q hq
  exact hr.lt
theorem want_put {W w6 w7 wz : World} {bh bk bw m bW bB : Nat} {l h d : Int} {ws : List Int} {os os0 : List OpH} {bs : List Nat} {xs : List (Value × ShM)} {vp vk : Value} {f g : ShotH} (hA : StillW W bh bk bw l h d m ws os os0 bs xs vp vk w6) (hW : WantW W m f bW bB xs w6) (hm : m ≠ 1) (hg : g.bu.length = m) (hP1 : Part [bB] w6 w7) (hr : Row w7 bB 38 (u64s g.bu)) (hP2 : Part [bW] w7 wz) (hb : Row wz bW 44 [.int .u64 g.c, .int .u64 g.su, .int .i64 g.le, .int .i64 g.gr, .slice (some ⟨bB, 0, none⟩) m m]) :
    StillW W bh bk bw l h d m ws os os0 bs xs vp vk wz ∧ WantW W m g bW bB xs wz := by
  have h7 := hA.offU hW hm hP1
  have hbW : Row w7 bW 44 [.int .u64 f.c, .int .u64 f.su, .int .i64 f.le, .int .i64 f.gr, .slice (some ⟨bB, 0, none⟩) m m] := hW.box.part hP1 (by simpa using hW.box.ne hW.bus (by decide))
  exact ⟨h7.off hbW hW.lo1 hP2 (.inl rfl) (fun q hq => own_off h7.ks hbW (by decide) q hq), hb, hr.part hP2 (by simpa using hr.ne hbW (by decide)), hW.lo1, hW.lo2, hW.ap, hg⟩
theorem index_at {l h d v : Int} {i : Nat} (rr : Sc.rightB l h d = true) (h0 : 0 ≤ v) (h1 : v ≤ h) (hi : i = ixH l d v) (w : World) : Calls Try.prog 32 #[.agg #[.int .i64 l, .int .i64 h, .int .i64 d], .int .i64 v] w fun e w' => e = .returned (.tuple #[.int .i64 (i : Int), .int .i64 0]) ∧ Below w.heap.size w w' := by
  subst hi
  exact Sc.sindex_yes rr w h0 h1
theorem row_extF {w : World} {b : Nat} {xs : List Int} (h : Row w b 38 (u64s xs)) : Ext .u64 w (some ⟨b, 0, none⟩) xs := fun j x hx => ⟨b, 0, rfl, h.lt, by rw [Nat.zero_add]; exact (h.cell j).trans (by rw [u64s_get, hx]; rfl)⟩
theorem check_at {w : World} {A : Option Addr} {c : Nat} {l h d : Int} {f : ShotH} (hA : Ext .u64 w A f.bu) (hl : f.bu.length ≤ 17592186044416) (h0 : checkS l h d f = 0) : Calls Try.prog 26 #[.agg #[.int .i64 l, .int .i64 h, .int .i64 d], .agg #[.int .u64 f.c, .int .u64 f.su, .int .i64 f.le, .int .i64 f.gr, .slice A f.bu.length c]] w fun e w' => e = .returned (.int .i64 0) ∧ Below w.heap.size w w' := by
  have h9 := check_any (l := l) (h := h) (d := d) (xc := f.c) (su := f.su) (le := f.le) (gr := f.gr) (c := c) hA hl
  unfold checkS at h0
  rw [h0] at h9
  exact h9
theorem zero_shot {m : Nat} : shotR m [] = ⟨0, 0, -1, -1, List.replicate m 0⟩ := by
  have e1 : IntKind.u64.wrap (0 : Int) = 0 := by rw [IntKind.wrap_u64]; omega
  have e2 : wrap64 18446744073709551615 = -1 := w64_top
  have e3 : wrap64 (wrap64 0 - 1) = -1 := by unfold wrap64; omega
  have e4 : (List.range m).map (fun j => IntKind.u64.wrap (cN [] j)) = List.replicate m 0 := by
    apply List.ext_getElem?
    intro j
    by_cases hj : j < m
    · simp [hj, cN, e1]
    · simp [hj]
  unfold shotR
  simp only [tN, tS, loR, hiR, e1, e2, e3, e4]
theorem right_atF {l h d : Int} (rr : Sc.rightB l h d = true) (w : World) : Calls Try.prog 31 #[.agg #[.int .i64 l, .int .i64 h, .int .i64 d]] w fun e w' => e = .returned (.tuple #[.int .i64 (Sc.cnt l h d), .int .i64 0]) ∧ Below w.heap.size w w' := Sc.scount_yes rr w
theorem histStill_no {l h d : Int} (r : Sc.rightB l h d = false) {A B : Option Addr} {len cap len' cap' : Nat} (W : World) : Calls Try.prog 6 #[.agg #[.int .i64 l, .int .i64 h, .int .i64 d], .slice A len cap, .slice B len' cap'] W fun e w' => e = .returned (.bool true) ∧ Below W.heap.size W w' := by
  have HB0 := Lib.hid (show Below W.heap.size W (W.alloc (.cells #[.int .i64 l, .int .i64 h, .int .i64 d] 23)) from (Below.refl _ _).alloc (Nat.le_refl _) _)
  have HS0 := Lib.hid (Row.new W 23 [.int .i64 l, .int .i64 h, .int .i64 d])
  have R := Lib.hid r
  clear r
  go_enter Try.func6, Try.ntmps6
  go_wp2_with (first
    | (go_at_call 12; (with_reducible refine (begins_any _).mono ?_); rintro e w1 ⟨rfl, hb⟩; have HB1 := Lib.hid (HB0.out.trans (hb.mono HB0.out.size)); have HS1 := Lib.hid (HS0.out.below hb HS0.out.lt); have hs1 := HS1.out; have p0 := hs1.cell 0; have p1 := hs1.cell 1; have p2 := hs1.cell 2; have pl := hs1.lt; clear hb hs1)
    | (go_at_call 10; (with_reducible refine (hnew_no R.out _).mono ?_); rintro e w2 ⟨rfl, hb⟩; have HB2 := Lib.hid (HB1.out.trans (hb.mono HB1.out.size)); clear hb))
  go_ret
  exact ⟨rfl, HB2.out⟩
set_option maxHeartbeats 51200000
theorem histStill_yes {l h d : Int} (r : Sc.rightB l h d = true) {A0 B0 : Option Addr} {cap cap' : Nat} {ops : List (Int × Int × Int)} {sch : List Int} (W : World) (hE : Ext3 .u8 .i64 .u64 W A0 ops) (hu : ∀ op ∈ ops, 0 ≤ op.2.2) (hr : ops.length * 24 ≤ 140737488355328) (hX : Ext .i64 W B0 sch) (hr' : sch.length ≤ 17592186044416) : Calls Try.prog 6 #[.agg #[.int .i64 l, .int .i64 h, .int .i64 d], .slice A0 ops.length cap, .slice B0 sch.length cap'] W fun e w' => e = .returned (.bool true) ∧ Below W.heap.size W w' := by
  obtain ⟨iu, hiu, hu0, hu1, hu2⟩ := info_parts info29
  have HB0 := Lib.hid (show Below W.heap.size W (W.alloc (.cells #[.int .i64 l, .int .i64 h, .int .i64 d] 23)) from (Below.refl _ _).alloc (Nat.le_refl _) _)
  have HS0 := Lib.hid (Row.new W 23 [.int .i64 l, .int .i64 h, .int .i64 d])
  have RR := Lib.hid r
  have HE := Lib.hid hE
  have HX := Lib.hid hX
  have HU := Lib.hid hu
  obtain ⟨m, hm⟩ : ∃ m, Sc.cnt l h d = m := ⟨_, rfl⟩
  have hfew := (cnt_few r).2
  rw [hm] at hfew
  have HM : Hid (m = Sc.cnt l h d) := Lib.hid hm.symm
  have HM3 : Hid (3 ≤ m) := Lib.hid (by rw [← hm]; exact (cnt_few r).1)
  have HPOS : Hid (0 < m) := Lib.hid (by rw [← hm]; have := (cnt_few r).1; omega)
  have hnew := fun w => hnew_yes r w
  unfold NewH at hnew
  rw [hm] at hnew
  have HNEW := Lib.hid hnew
  have hcnt := fun w => right_atF r w
  rw [hm] at hcnt
  have HCNT := Lib.hid hcnt
  obtain ⟨os0, hos0⟩ : ∃ os0, pickO l h d ops = os0 := ⟨_, rfl⟩
  have HOS0 := Lib.hid hos0
  have hpf := pick_facts r hu
  rw [hos0, hm] at hpf
  have HPF := Lib.hid hpf
  have HPKL : Hid (os0.length * 24 ≤ 140737488355328) := Lib.hid (by have := pickO_length (l := l) (h := h) (d := d) ops; rw [hos0] at this; omega)
  have hmk : ∀ w : World, (Instr.makeSlice 42 (.int .i64 (m : Int)) (.int .i64 (m : Int))).run Try.prog w = .ok (.slice (some ⟨w.heap.size, 0, none⟩) m m) (w.alloc (.cells (u64s (List.replicate m 0)).toArray 38)) := fun w => by
    have := run_make (P := Try.prog) w 42 38 iu (.int .u64 0) Try.underlying42 hiu hu0 .i64 .i64 (m : Int) (m : Int) (by omega) (by omega) (by rw [hu2]; omega) (by omega)
    rw [this, show (m : Int).toNat = m by omega, hu1]
    congr 2
    rw [← noughts29]
  clear r hE hX hu hm hnew hcnt hos0 hpf
  go_enter Try.func6, Try.ntmps6
  go_wp2_with (first
    | (go_at_call 12; (with_reducible refine (begins_any _).mono ?_); rintro e w1 ⟨rfl, hb⟩; have HB1 := Lib.hid (HB0.out.trans (hb.mono HB0.out.size)); have HS1 := Lib.hid (HS0.out.below hb HS0.out.lt); have hs9 := HS1.out; have p0 := hs9.cell 0; have p1 := hs9.cell 1; have p2 := hs9.cell 2; have pl := hs9.lt; clear hs9; clear hb)
    | (go_at_call 10; (with_reducible refine (HNEW.out _).mono ?_); rintro e w2 ⟨bh, bk, bw, rfl, _, _, hbw, hh, hb⟩; have HS2 := Lib.hid (HS1.out.below hb HS1.out.lt); have HH2 := Lib.hid hh; have HB2 := Lib.hid (HB1.out.trans (hb.mono HB1.out.size)); have HBW := Lib.hid (Nat.le_trans HB1.out.size hbw); clear hbw hh hb)
    | (go_at_call 30; (with_reducible refine (under_any (W := W) RR.out HM.out HH2.out HBW.out HB2.out (HE.out.on HB2.out) hr).mono ?_); rintro e w3 ⟨vp, vk, bs, xs0, rfl, hK, hb⟩; have HK := Lib.hid hK; have HS3 := Lib.hid (HS2.out.below hb HS2.out.lt); clear hK hb))
  have HO3 : Hid (StillW W bh bk bw l h d m (startH m) os0 os0 bs xs0 vp vk w3) := Lib.hid (by
    have hK := HK.out
    rw [HOS0.out] at hK
    exact ⟨hK.beg.many, hK.ks, HS3.out, rfl, CrowdR.start (fun o ho => ⟨(HPF.out o ho).2.1, (HPF.out o ho).2.2.1⟩), fun o ho => (HPF.out o ho).1⟩)
  have HLB : Hid (bs.length = os0.length) := Lib.hid HO3.out.many.pends.len
  obtain ⟨pa, pc, rfl⟩ := own_form HO3.out.many.ps
  obtain ⟨ka, kc, rfl⟩ := own_form HO3.out.ks
  clear HK HS1 HS2 HS3 HH2 HNEW HB0 HB1 HS0 p0 p1 p2 pl
  go_loopw [11] (fun u wr => ∃ j : Nat, j ≤ sch.length ∧ u = .int .i64 j ∧ ∃ ws os xs, StillW W bh bk bw l h d m ws os os0 bs xs (.slice pa bs.length pc) (.slice ka bs.length kc) wr) (fun u _ => sch.length - (intOf u).toNat)
  case atStart => exact ⟨0, Nat.zero_le _, rfl, _, _, _, HO3.out⟩
  case round =>
    obtain ⟨j, hj, rfl, ws, os, xs, hA⟩ := hrel
    have HA := Lib.hid hA
    have HM1 : Hid (m ≠ 1) := Lib.hid (by have := HM3.out; omega)
    clear hA HO3
    by_cases hlt : j < sch.length
    · obtain ⟨k, hk⟩ : ∃ k, sch[j]? = some k := ⟨sch[j], List.getElem?_eq_getElem hlt⟩
      obtain ⟨b', o', rfl, hlt', q0⟩ := (HX.out.on HA.out.many.low) j _ hk
      have hlt2 : (j : Int) < (sch.length : Int) := by omega
      clear hk
      by_cases hk0 : k < 0
      · go_wp2
        go_roundw
        case rel => exact ⟨j + 1, by omega, by go_num, ws, os, xs, HA.out⟩
        case measure => simp [intOf]; omega
      by_cases hkn : (bs.length : Int) ≤ k
      · go_wp2
        go_roundw
        case rel => exact ⟨j + 1, by omega, by go_num, ws, os, xs, HA.out⟩
        case measure => simp [intOf]; omega
      obtain ⟨q, rfl⟩ := Int.eq_ofNat_of_zero_le (show 0 ≤ k by omega)
      have hqn : q < bs.length := by omega
      obtain ⟨o, b, x, g, c, hq, hb, hx, hv, hc, hp⟩ := HA.out.many.get hqn
      cases hv
      have hgl : g < wr.heap.size := World.block_lt_of_cell? _ _ hc
      have HQ := Lib.hid hq
      have HBb := Lib.hid hb
      have HXq := Lib.hid hx
      have HP := Lib.hid hp
      clear hq hb hx hp
      have hq2 : (q : Int) < (bs.length : Int) := by omega
      cases hen : o.en with
      | true =>
        have HEN := Lib.hid hen
        clear hen
        go_wp2_with (go_at_call 16; (with_reducible refine (hoverF_at HP.out.row HP.out.next HEN.out).mono ?_); rintro e w2 ⟨rfl, hb2⟩; have HA2 := Lib.hid (HA.out.on hb2); clear hb2)
        go_roundw
        case rel => exact ⟨j + 1, by omega, by go_num, ws, os, xs, HA2.out⟩
        case measure => simp [intOf]; omega
      | false =>
        have HEN := Lib.hid hen
        clear hen
        go_wp2_with (go_at_call 16; (with_reducible refine (hstep_op HP.out.row HA.out.many.hist HP.out.next HP.out.ok HPOS.out HEN.out).mono ?_); intro e w2 hs; have hcp := hs; obtain ⟨_, _, he, _⟩ := hs; subst he; obtain ⟨xs3, hC, _⟩ := still_step HA.out HM1.out HQ.out HBb.out HXq.out HEN.out HPOS.out hcp; have HC := Lib.hid hC; clear hcp hC)
        go_roundw
        case rel => exact ⟨j + 1, by omega, by go_num, _, _, xs3, HC.out⟩
        case measure => simp [intOf]; omega
    · obtain rfl : j = sch.length := by omega
      have hs9 := HA.out.sc; have p0 := hs9.cell 0; have p1 := hs9.cell 1; have p2 := hs9.cell 2; have pl := hs9.lt; clear hs9
      go_wp2_with (go_at_call 31; (with_reducible refine (HCNT.out _).mono ?_); rintro e w4 ⟨rfl, hb⟩; have HA4 := Lib.hid (HA.out.on hb); clear hb)
      obtain ⟨w5, hw5⟩ : ∃ w5, (w4.alloc (.cells (u64s (List.replicate m 0)).toArray 38)).alloc (.cells #[.int .u64 0, .int .u64 0, .int .i64 (-1), .int .i64 (-1), .slice (some ⟨w4.heap.size, 0, none⟩) m m] 44) = w5 := ⟨_, rfl⟩
      have HA5 : Hid (StillW W bh bk bw l h d m ws os os0 bs xs (.slice pa bs.length pc) (.slice ka bs.length kc) w5) := Lib.hid (by rw [← hw5]; exact (HA4.out.on ((Below.refl _ _).alloc (Nat.le_refl _) _)).on ((Below.refl _ _).alloc (Nat.le_refl _) _))
      have HW5 : Hid (WantW W m (shotR m (Ag (os0.take 0))) (w4.heap.size + 1) w4.heap.size xs w5) := Lib.hid (by
        have e0 : Ag (os0.take 0) = [] := rfl
        rw [e0, zero_shot, ← hw5]
        exact ⟨Row.at_ (by simp), (Row.new w4 _ _).alloc _, by have := HA4.out.many.low.size; omega, HA4.out.many.low.size, fun x hx e => by have := busF HA4.out.many.pends x hx _ e; omega, by simp⟩)
      obtain ⟨bB, hbB⟩ : ∃ bB, w4.heap.size = bB := ⟨_, rfl⟩
      obtain ⟨bW, hbW⟩ : ∃ bW, w4.heap.size + 1 = bW := ⟨_, rfl⟩
      rw [hw5, hbW]
      rw [hbW, hbB] at HW5
      clear hw5 hbB hbW HA4 p0 p1 p2 pl
      go_loopw [16] (fun u wr => ∃ i : Nat, i ≤ bs.length ∧ u = .int .i64 i ∧ ∃ ws os xs, StillW W bh bk bw l h d m ws os os0 bs xs (.slice pa bs.length pc) (.slice ka bs.length kc) wr ∧ WantW W m (shotR m (Ag (os0.take i))) bW bB xs wr ∧ (∀ (p : Nat) (o : OpH), p < i → os[p]? = some o → o.en = true)) (fun u _ => bs.length - (intOf u).toNat)
      case atStart => exact ⟨0, Nat.zero_le _, rfl, ws, os, xs, HA5.out, HW5.out, fun p o hp => by omega⟩
      case round =>
        obtain ⟨i, hi, rfl, ws, os, xs, hA, hW, hEn⟩ := hrel
        have HA := Lib.hid hA
        have HWa := Lib.hid hW
        have HEn := Lib.hid hEn
        clear hA hW hEn HA5 HW5
        by_cases hlt : i < bs.length
        · have hlt2 : (i : Int) < (bs.length : Int) := by omega
          go_wp2
          go_loopw [17] (fun t wr => ∃ n : Nat, t = .int .i64 n ∧ ∃ ws os xs, StillW W bh bk bw l h d m ws os os0 bs xs (.slice pa bs.length pc) (.slice ka bs.length kc) wr ∧ WantW W m (shotR m (Ag (os0.take i))) bW bB xs wr ∧ (∀ (p : Nat) (o : OpH), p < i → os[p]? = some o → o.en = true) ∧ ∀ o, os[i]? = some o → n + muA m ws o ≤ m + 16) (fun t _ => m + 20 - (intOf t).toNat)
          case atStart => exact ⟨0, rfl, ws, os, xs, HA.out, HWa.out, HEn.out, fun o _ => by have := muA_few (ws := ws) (o := o) HM3.out; omega⟩
          case round =>
            obtain ⟨n, rfl, ws, os, xs, hA, hW, hEn, hB⟩ := hrel
            clear HA HWa HEn
            have HA := Lib.hid hA
            have HWa := Lib.hid hW
            have HEn := Lib.hid hEn
            have HBd := Lib.hid hB
            clear hA hW hEn hB
            obtain ⟨o, b, x, g, c, hq, hb, hx, hv, hc, hp⟩ := HA.out.many.get hlt
            cases hv
            have hgl : g < wr.heap.size := World.block_lt_of_cell? _ _ hc
            have HQ := Lib.hid hq
            have HBb := Lib.hid hb
            have HXq := Lib.hid hx
            have HP := Lib.hid hp
            clear hq hb hx hp
            cases hen : o.en with
            | false =>
              have HEN := Lib.hid hen
              have HON := Lib.hid (HA.out.one o (List.mem_of_getElem? HQ.out))
              have hmu := HBd.out o HQ.out
              have hmp := muA_pos (ws := ws) HON.out hen
              have HMU := Lib.hid (muA_step (ws := ws) HPOS.out HON.out hen (by have := HA.out.crowd.len; omega) HA.out.crowd.len)
              have HMB := Lib.hid hmu
              have wm16 : IntKind.i64.wrap ((m : Int) + 16) = (m : Int) + 16 := by rw [IntKind.wrap_i64]; omega
              have hn16 : (n : Int) ≤ (m : Int) + 16 := by omega
              clear hen hmu hmp
              go_wp2_with (first
                | (go_at_call 18; (with_reducible refine (hdone_op HP.out.row HP.out.next).mono ?_); rw [HEN.out]; rintro e wx ⟨rfl, rfl⟩)
                | (go_at_call 16; (with_reducible refine (hstep_op HP.out.row HA.out.many.hist HP.out.next HP.out.ok HPOS.out HEN.out).mono ?_); intro e w2 hs; have hcp := hs; obtain ⟨_, _, he, _⟩ := hs; subst he; obtain ⟨xs3, hC, hCW⟩ := still_step HA.out HM1.out HQ.out HBb.out HXq.out HEN.out HPOS.out hcp; have HC := Lib.hid hC; have HCW := Lib.hid (hCW _ _ _ HWa.out); clear hcp hC hCW))
              go_roundw
              case rel =>
                refine ⟨n + 1, by go_num, _, _, xs3, HC.out, HCW.out, fun p o9 hp ho9 => ?_, fun o9 ho9 => ?_⟩
                · rw [List.getElem?_set_ne (by omega)] at ho9
                  exact HEn.out p o9 hp ho9
                · rw [List.getElem?_set_self (lt_of_get HQ.out)] at ho9
                  cases ho9
                  have h1 := HMU.out
                  have h2 := HMB.out
                  omega
              case measure => have h2 := HMB.out; simp [intOf]; omega
            | true =>
              have HEN := Lib.hid hen
              clear hen
              obtain ⟨o0, ho0, k0, v0, n0, i0⟩ := key_at HA.out.key HQ.out
              obtain ⟨e0, e1, e2⟩ := hopCells_get ho0
              obtain ⟨gk, ck, hvk, _, _⟩ := own_some HA.out.ks (by omega)
              cases hvk
              have q0 := own_cell HA.out.ks e0
              have q1 := own_cell HA.out.ks e1
              have q2 := own_cell HA.out.ks e2
              have qlt : gk < wr.heap.size := World.block_lt_of_cell? _ _ q0
              have hi3 : i * 3 ≤ 17592186044416 := by have h1 := HPKL.out; have h2 := HLB.out; omega
              have HAGT := Lib.hid (Ag_take ho0)
              have HEN9 : Hid (∀ (p : Nat) (o : OpH), p < i + 1 → os[p]? = some o → o.en = true) := Lib.hid (fun p o9 hp ho9 => by
                by_cases e : p = i
                · subst e; rw [HQ.out] at ho9; cases ho9; exact HEN.out
                · exact HEn.out p o9 (by omega) ho9)
              by_cases hk : o0.k = 1
              · obtain ⟨v, hv9⟩ : ∃ v, o0.v = v := ⟨_, rfl⟩
                obtain ⟨nn, hn9⟩ : ∃ nn, o0.n = nn := ⟨_, rfl⟩
                obtain ⟨o0i, hi9⟩ : ∃ o0i, o0.i = o0i := ⟨_, rfl⟩
                rw [hk] at q0
                rw [hv9] at q1
                rw [hn9] at q2
                have hokr := (HPF.out o0 (List.mem_of_getElem? ho0)).2.2.2 hk
                have hrec : recO o0 = ⟨v, nn, o0i⟩ := by unfold recO; rw [hv9, hn9, hi9]
                rw [hrec] at hokr
                have HOKR := Lib.hid hokr
                have H0V : Hid (0 ≤ v) := Lib.hid hokr.1
                have H1V : Hid (v ≤ h) := Lib.hid hokr.2.1
                have HIX : Hid (o0i = ixH l d v) := Lib.hid hokr.2.2.2
                have HIM : Hid (o0i < m) := Lib.hid (by rw [HIX.out, HM.out]; exact ix_lt RR.out hokr.1 hokr.2.1)
                have HAG : Hid (Ag (os0.take (i + 1)) = Ag (os0.take i) ++ [⟨v, nn, o0i⟩]) := Lib.hid (by rw [HAGT.out, if_pos hk, hrec])
                have HOKS : Hid (∀ r ∈ Ag (os0.take i), OkR l h d r) := Lib.hid (Ag_ok (fun o9 ho9 hk9 => (HPF.out o9 (List.mem_of_mem_take ho9)).2.2.2 hk9))
                have hsn := shot_snoc (m := m) RR.out HOKS.out HOKR.out HIM.out
                have HSN := Lib.hid hsn
                obtain ⟨x0, hx0, hsb⟩ := hsn.2.2.2.2.2.2
                have HX0 := Lib.hid hx0
                have HSB := Lib.hid hsb
                have hv0 := H0V.out
                have wv : IntKind.u64.wrap v = v := by have h2 := H1V.out; have h1 := h_le RR.out; rw [IntKind.wrap_u64]; omega
                have him : (o0i : Int) < (m : Int) := by have := HIM.out; omega
                clear hokr hsn hx0 hsb e0 e1 e2 ho0 k0 v0 n0 i0 hv9 hn9 hi9 hrec hk
                go_upto_region 26 with (go_at_call 18; (with_reducible refine (hdone_op HP.out.row HP.out.next).mono ?_); rw [HEN.out]; rintro e wx ⟨rfl, rfl⟩)
                obtain ⟨w5, hw5⟩ : ∃ w5, wr.alloc (.cells #[.int .u8 1, .int .i64 v, .int .u64 nn] 40) = w5 := ⟨_, rfl⟩
                obtain ⟨bX, hbX⟩ : ∃ bX, wr.heap.size = bX := ⟨_, rfl⟩
                have HA5 : Hid (StillW W bh bk bw l h d m ws os os0 bs xs (.slice (some ⟨g, 0, none⟩) bs.length pc) (.slice (some ⟨gk, 0, none⟩) bs.length kc) w5) := Lib.hid (by rw [← hw5]; exact HA.out.on ((Below.refl _ _).alloc (Nat.le_refl _) _))
                have HW5 : Hid (WantW W m (shotR m (Ag (os0.take i))) bW bB xs w5) := Lib.hid (by rw [← hw5]; exact HWa.out.on ((Below.refl _ _).alloc (Nat.le_refl _) _))
                have HX5 : Hid (Row w5 bX 40 [.int .u8 1, .int .i64 v, .int .u64 nn]) := Lib.hid (by rw [← hw5, ← hbX]; exact Row.new wr _ _)
                rw [hw5, hbX]
                clear hw5 hbX q0 q1 q2 qlt hc hgl
                have c0 := HX5.out.cell 0
                have c1 := HX5.out.cell 1
                have c2 := HX5.out.cell 2
                have cl := HX5.out.lt
                have hs9 := HA5.out.sc; have p0 := hs9.cell 0; have p1 := hs9.cell 1; have p2 := hs9.cell 2; have pl := hs9.lt; clear hs9
                go_upto_region 29 with (go_at_call 32; (with_reducible refine (index_at RR.out H0V.out H1V.out HIX.out _).mono ?_); rintro e w6 ⟨rfl, hb⟩; have HA6 := Lib.hid (HA5.out.on hb); have HW6 := Lib.hid (HW5.out.on hb); have HX6 := Lib.hid (HX5.out.below hb HX5.out.lt); clear hb)
                clear c0 c1 c2 cl p0 p1 p2 pl
                have c1 := HX6.out.cell 1
                have c2 := HX6.out.cell 2
                have cl := HX6.out.lt
                have n1 : bW ≠ bB := HW6.out.box.ne HW6.out.bus (by decide)
                have n2 : bB ≠ bW := n1.symm
                have n3 : bX ≠ bB := HX6.out.ne HW6.out.bus (by decide)
                have n4 : bX ≠ bW := HX6.out.ne HW6.out.box (by decide)
                have n5 : bB ≠ bX := n3.symm
                have n6 : bW ≠ bX := n4.symm
                obtain ⟨f, hf⟩ : ∃ f, shotR m (Ag (os0.take i)) = f := ⟨_, rfl⟩
                obtain ⟨g9, hg⟩ : ∃ g9, shotR m (Ag (os0.take i) ++ [⟨v, nn, o0i⟩]) = g9 := ⟨_, rfl⟩
                have HGL9 : Hid (g9.bu.length = m) := Lib.hid (by rw [← hg]; exact shot_len)
                rw [hf, hg] at HSN
                rw [hf] at HW6 HX0
                rw [hf, hg] at HSB
                obtain ⟨fc, fsu, fle, fgr, fbu⟩ := f
                obtain ⟨gc, gs, gl, gg, gb⟩ := g9
                have HG := Lib.hid hg
                have HGL : Hid (gb.length = m) := Lib.hid HGL9.out
                clear hf hg HGL9
                have hsn9 := HSN.out
                dsimp only at hsn9
                clear HSN
                have HSN := Lib.hid hsn9
                have hsb9 := HSB.out
                dsimp only at hsb9
                have hx09 := HX0.out
                dsimp only at hx09
                have HXX := Lib.hid hx09
                clear hsn9 HX0
                have z0 : w6.cell? ⟨bW, 0, none⟩ = some (.int .u64 fc) := HW6.out.box.cell 0
                have z4 : w6.cell? ⟨bW, 4, none⟩ = some (.slice (some ⟨bB, 0, none⟩) m m) := HW6.out.box.cell 4
                have zl := HW6.out.box.lt
                have y0 : w6.cell? ⟨bB, o0i, none⟩ = some (.int .u64 x0) := (HW6.out.bus.cell o0i).trans (by rw [u64s_get, HXX.out]; rfl)
                have yl := HW6.out.bus.lt
                have yf := HW6.out.bus.free
                go_region
                all_goals
                  go_upto_region 30 with fail
                  obtain ⟨wy, hwy⟩ : ∃ wy, (w6.setCell ⟨bB, o0i, none⟩ (.int .u64 (IntKind.u64.wrap (x0 + nn)))).drew = wy := ⟨_, rfl⟩
                  have hrb := (HW6.out.bus.set o0i (.int .u64 (IntKind.u64.wrap (x0 + nn)))).drew
                  rw [u64s_set, hsb9, hwy] at hrb
                  have hP9 := ((Part.refl [bB] w6).set (p := ⟨bB, o0i, none⟩) (by simp) (.int .u64 (IntKind.u64.wrap (x0 + nn)))).drew
                  rw [hwy] at hP9
                  have h9 := want_put HA6.out HW6.out HM1.out (g := ⟨fc, fsu, fle, fgr, gb⟩) HGL.out hP9 hrb (Part.refl [bW] wy) (HW6.out.box.part hP9 (by simpa using n1))
                  have HAy := Lib.hid h9.1
                  have HWy := Lib.hid h9.2
                  have HXy := Lib.hid (HX6.out.part hP9 (by simpa using n3))
                  rw [hwy]
                  clear hwy hrb hP9 h9 z0 z4 zl y0 yl yf c1 c2 cl hsb9 hx09
                  have c1 := HXy.out.cell 1
                  have c2 := HXy.out.cell 2
                  have cl := HXy.out.lt
                  have z0 : wy.cell? ⟨bW, 0, none⟩ = some (.int .u64 fc) := HWy.out.box.cell 0
                  have z1 : wy.cell? ⟨bW, 1, none⟩ = some (.int .u64 fsu) := HWy.out.box.cell 1
                  have z2 : wy.cell? ⟨bW, 2, none⟩ = some (.int .i64 fle) := HWy.out.box.cell 2
                  have z3 : wy.cell? ⟨bW, 3, none⟩ = some (.int .i64 fgr) := HWy.out.box.cell 3
                  have zl := HWy.out.box.lt
                  have zf := HWy.out.box.free
                  go_upto_region 32 with fail
                  obtain ⟨wv, hwv⟩ : ∃ wv, (wy.setCell ⟨bW, 0, none⟩ (.int .u64 (IntKind.u64.wrap (fc + nn)))).setCell ⟨bW, 1, none⟩ (.int .u64 (IntKind.u64.wrap (fsu + IntKind.u64.wrap (v * nn)))) = wv := ⟨_, rfl⟩
                  have hrv := (HWy.out.box.set 0 (.int .u64 (IntKind.u64.wrap (fc + nn)))).set 1 (.int .u64 (IntKind.u64.wrap (fsu + IntKind.u64.wrap (v * nn))))
                  have hPv := ((Part.refl [bW] wy).set (p := ⟨bW, 0, none⟩) (by simp) (.int .u64 (IntKind.u64.wrap (fc + nn)))).set (p := ⟨bW, 1, none⟩) (by simp) (.int .u64 (IntKind.u64.wrap (fsu + IntKind.u64.wrap (v * nn))))
                  rw [hwv] at hrv hPv
                  rw [HSN.out.1, HSN.out.2.1] at hrv
                  have h9 := want_put HAy.out HWy.out HM1.out (g := ⟨gc, gs, fle, fgr, gb⟩) HGL.out (Part.refl [bB] wy) HWy.out.bus hPv hrv
                  have HAv := Lib.hid h9.1
                  have HWv := Lib.hid h9.2
                  have HXv := Lib.hid (HXy.out.part hPv (by simpa using n4))
                  rw [hwv]
                  clear hwv hrv hPv h9 z0 z1 z2 z3 zl zf c1 c2 cl
                  have c1 := HXv.out.cell 1
                  have cl := HXv.out.lt
                  have z2 : wv.cell? ⟨bW, 2, none⟩ = some (.int .i64 fle) := HWv.out.box.cell 2
                  have zl := HWv.out.box.lt
                  have zf := HWv.out.box.free
                  have z3 : wv.cell? ⟨bW, 3, none⟩ = some (.int .i64 fgr) := HWv.out.box.cell 3
                  by_cases hc3 : fgr < v
                  · by_cases hc1 : fle < 0
                    · skip
                      have b1 : fle < 0 := hc1
                      have b3 : fgr < v := hc3
                      have HEL := Lib.hid (HSN.out.2.2.1 (.inl hc1))
                      have HEG := Lib.hid (HSN.out.2.2.2.2.1 b3)
                      clear hc1 hc3
                      go_wp2
                      go_roundw
                      case rel =>
                        have h9 := want_put HAv.out HWv.out HM1.out (g := ⟨gc, gs, gl, gg, gb⟩) HGL.out (Part.refl [bB] wv) HWv.out.bus (((Part.refl [bW] wv).set (p := ⟨bW, 2, none⟩) (by simp) (.int .i64 v)).set (p := ⟨bW, 3, none⟩) (by simp) (.int .i64 v)) (by
                          rw [HEL.out, HEG.out]
                          exact ((HWv.out.box.set 2 (.int .i64 v)).set 3 (.int .i64 v)))
                        exact ⟨i + 1, by omega, by go_num, ws, os, xs, h9.1, by rw [HAG.out, HG.out]; exact h9.2, HEN9.out⟩
                      case measure => simp [intOf]; omega
                    · by_cases hc2 : v < fle
                      · skip
                        have b1 : 0 ≤ fle := by omega
                        have b2 : v < fle := hc2
                        have b3 : fgr < v := hc3
                        have HEL := Lib.hid (HSN.out.2.2.1 (.inr hc2))
                        have HEG := Lib.hid (HSN.out.2.2.2.2.1 b3)
                        clear hc1 hc2 hc3
                        go_wp2
                        go_roundw
                        case rel =>
                          have h9 := want_put HAv.out HWv.out HM1.out (g := ⟨gc, gs, gl, gg, gb⟩) HGL.out (Part.refl [bB] wv) HWv.out.bus (((Part.refl [bW] wv).set (p := ⟨bW, 2, none⟩) (by simp) (.int .i64 v)).set (p := ⟨bW, 3, none⟩) (by simp) (.int .i64 v)) (by
                            rw [HEL.out, HEG.out]
                            exact ((HWv.out.box.set 2 (.int .i64 v)).set 3 (.int .i64 v)))
                          exact ⟨i + 1, by omega, by go_num, ws, os, xs, h9.1, by rw [HAG.out, HG.out]; exact h9.2, HEN9.out⟩
                        case measure => simp [intOf]; omega
                      · skip
                        have b1 : 0 ≤ fle := by omega
                        have b2 : fle ≤ v := by omega
                        have b3 : fgr < v := hc3
                        have HEL := Lib.hid (HSN.out.2.2.2.1 (fun e => e.elim hc1 hc2))
                        have HEG := Lib.hid (HSN.out.2.2.2.2.1 b3)
                        clear hc1 hc2 hc3
                        go_wp2
                        go_roundw
                        case rel =>
                          have h9 := want_put HAv.out HWv.out HM1.out (g := ⟨gc, gs, gl, gg, gb⟩) HGL.out (Part.refl [bB] wv) HWv.out.bus ((Part.refl [bW] wv).set (p := ⟨bW, 3, none⟩) (by simp) (.int .i64 v)) (by
                            rw [HEL.out, HEG.out]
                            exact (HWv.out.box.set 3 (.int .i64 v)))
                          exact ⟨i + 1, by omega, by go_num, ws, os, xs, h9.1, by rw [HAG.out, HG.out]; exact h9.2, HEN9.out⟩
                        case measure => simp [intOf]; omega
                  · by_cases hc1 : fle < 0
                    · skip
                      have b1 : fle < 0 := hc1
                      have b3 : v ≤ fgr := by omega
                      have HEL := Lib.hid (HSN.out.2.2.1 (.inl hc1))
                      have HEG := Lib.hid (HSN.out.2.2.2.2.2.1 b3)
                      clear hc1 hc3
                      go_wp2
                      go_roundw
                      case rel =>
                        have h9 := want_put HAv.out HWv.out HM1.out (g := ⟨gc, gs, gl, gg, gb⟩) HGL.out (Part.refl [bB] wv) HWv.out.bus ((Part.refl [bW] wv).set (p := ⟨bW, 2, none⟩) (by simp) (.int .i64 v)) (by
                          rw [HEL.out, HEG.out]
                          exact (HWv.out.box.set 2 (.int .i64 v)))
                        exact ⟨i + 1, by omega, by go_num, ws, os, xs, h9.1, by rw [HAG.out, HG.out]; exact h9.2, HEN9.out⟩
                      case measure => simp [intOf]; omega
                    · by_cases hc2 : v < fle
                      · skip
                        have b1 : 0 ≤ fle := by omega
                        have b2 : v < fle := hc2
                        have b3 : v ≤ fgr := by omega
                        have HEL := Lib.hid (HSN.out.2.2.1 (.inr hc2))
                        have HEG := Lib.hid (HSN.out.2.2.2.2.2.1 b3)
                        clear hc1 hc2 hc3
                        go_wp2
                        go_roundw
                        case rel =>
                          have h9 := want_put HAv.out HWv.out HM1.out (g := ⟨gc, gs, gl, gg, gb⟩) HGL.out (Part.refl [bB] wv) HWv.out.bus ((Part.refl [bW] wv).set (p := ⟨bW, 2, none⟩) (by simp) (.int .i64 v)) (by
                            rw [HEL.out, HEG.out]
                            exact (HWv.out.box.set 2 (.int .i64 v)))
                          exact ⟨i + 1, by omega, by go_num, ws, os, xs, h9.1, by rw [HAG.out, HG.out]; exact h9.2, HEN9.out⟩
                        case measure => simp [intOf]; omega
                      · skip
                        have b1 : 0 ≤ fle := by omega
                        have b2 : fle ≤ v := by omega
                        have b3 : v ≤ fgr := by omega
                        have HEL := Lib.hid (HSN.out.2.2.2.1 (fun e => e.elim hc1 hc2))
                        have HEG := Lib.hid (HSN.out.2.2.2.2.2.1 b3)
                        clear hc1 hc2 hc3
                        go_wp2
                        go_roundw
                        case rel =>
                          have h9 := want_put HAv.out HWv.out HM1.out (g := ⟨gc, gs, gl, gg, gb⟩) HGL.out (Part.refl [bB] wv) HWv.out.bus (Part.refl [bW] wv) (by
                            rw [HEL.out, HEG.out]
                            exact HWv.out.box)
                          exact ⟨i + 1, by omega, by go_num, ws, os, xs, h9.1, by rw [HAG.out, HG.out]; exact h9.2, HEN9.out⟩
                        case measure => simp [intOf]; omega
              · have hkb : (o0.k != 1) = true := by simpa using hk
                have HAG : Hid (Ag (os0.take (i + 1)) = Ag (os0.take i)) := Lib.hid (by rw [HAGT.out, if_neg hk, List.append_nil])
                clear e0 e1 e2 ho0 k0 v0 n0 i0
                go_wp2_with (go_at_call 18; (with_reducible refine (hdone_op HP.out.row HP.out.next).mono ?_); rw [HEN.out]; rintro e wx ⟨rfl, rfl⟩)
                go_roundw
                case rel => exact ⟨i + 1, by omega, by go_num, ws, os, xs, HA.out.on ((Below.refl _ _).alloc (Nat.le_refl _) _), by rw [HAG.out]; exact HWa.out.on ((Below.refl _ _).alloc (Nat.le_refl _) _), HEN9.out⟩
                case measure => simp [intOf]; omega
        · obtain rfl : i = bs.length := by omega
          have hall : ∀ o, o ∈ os → o.en = true := fun o ho => by
            obtain ⟨p, hp⟩ := List.getElem?_of_mem ho
            exact HEn.out p o (by have := HA.out.many.pends.len; have := lt_of_get hp; omega) hp
          have hR := HA.out.crowd.still HA.out.one hall
          have hsh : shotH m ws = shotR m (Ag os0) := by rw [hist_shot hR, Ag_key HA.out.key]
          have htk : os0.take bs.length = os0 := by rw [HLB.out, List.take_length]
          have hshow := fun (w : World) (hs : HistM w bh bk bw l h d m ws) => hshow_any hs HPOS.out
          rw [htk] at HWa
          rw [hsh] at hshow
          have hck := shot_check (rs := Ag os0) RR.out (Ag_ok (fun o9 ho9 hk9 => (HPF.out o9 ho9).2.2.2 hk9))
          rw [← HM.out] at hck
          have hsum := Ag_sum (l := l) (h := h) (d := d) (ops := ops) RR.out HU.out
          rw [HOS0.out] at hsum
          have HCK : Hid (littleF ops = true → checkS l h d (shotR m (Ag os0)) = 0) := Lib.hid (fun e => hck (by have := little_sum e; omega))
          obtain ⟨f, hf⟩ : ∃ f, shotR m (Ag os0) = f := ⟨_, rfl⟩
          rw [hf] at HWa hshow HCK
          have HSHOW := Lib.hid hshow
          have HFL := Lib.hid HWa.out.len
          have HFL2 : Hid (f.bu.length ≤ 17592186044416) := Lib.hid (by rw [HFL.out]; omega)
          clear hall hR hsh htk hshow hck hsum hf
          go_upto_region 37 with (go_at_call 29; (with_reducible refine (HSHOW.out _ HA.out.many.hist).mono ?_); rintro e w2 ⟨AS, cS, rfl, hoS, hhS, hPS⟩; have HES := Lib.hid (own_ext hoS); have HL2 := Lib.hid (HA.out.many.low.trans (hPS.below HA.out.many.low.size (by have := HA.out.many.lo; simpa using this))); have HBX := Lib.hid (HWa.out.box.part hPS (by simpa using HWa.out.box.ne HA.out.many.hist.words.row (by decide))); have HBU := Lib.hid (HWa.out.bus.part hPS (by simpa using HWa.out.bus.ne HA.out.many.hist.words.row (by decide))); have HSC := Lib.hid (HA.out.sc.part hPS (by simpa using HA.out.sc.ne HA.out.many.hist.words.row (by decide))); clear hoS hhS hPS)
          obtain ⟨w3, hw3⟩ : ∃ w3, w2.alloc (.cells #[.int .u64 f.c, .int .u64 f.su, .int .i64 f.le, .int .i64 f.gr, .slice AS f.bu.length cS] 44) = w3 := ⟨_, rfl⟩
          obtain ⟨bZ, hbZ⟩ : ∃ bZ, w2.heap.size = bZ := ⟨_, rfl⟩
          have RZ : Hid (Row w3 bZ 44 [.int .u64 f.c, .int .u64 f.su, .int .i64 f.le, .int .i64 f.gr, .slice AS f.bu.length cS]) := Lib.hid (by rw [← hw3, ← hbZ]; exact Row.new w2 _ _)
          have RX : Hid (Row w3 bW 44 [.int .u64 f.c, .int .u64 f.su, .int .i64 f.le, .int .i64 f.gr, .slice (some ⟨bB, 0, none⟩) f.bu.length m]) := Lib.hid (by rw [← hw3, HFL.out]; exact HBX.out.alloc _)
          have RU : Hid (Row w3 bB 38 (u64s f.bu)) := Lib.hid (by rw [← hw3]; exact HBU.out.alloc _)
          have RS : Hid (Row w3 W.heap.size 23 [.int .i64 l, .int .i64 h, .int .i64 d]) := Lib.hid (by rw [← hw3]; exact HSC.out.alloc _)
          have RE : Hid (Ext .u64 w3 AS f.bu) := Lib.hid (by rw [← hw3]; exact HES.out.on ((Below.refl _ _).alloc (Nat.le_refl _) _))
          have RL : Hid (Below W.heap.size W w3) := Lib.hid (by rw [← hw3]; exact HL2.out.alloc HL2.out.size _)
          rw [hw3, hbZ]
          clear hw3 hbZ HES HL2 HBX HBU HSC
          obtain ⟨z0, z1, z2, z3, z4⟩ := RZ.out.five
          obtain ⟨x0, x1, x2, x3, x4⟩ := RX.out.five
          have s0 := RS.out.cell 0
          have s1 := RS.out.cell 1
          have s2 := RS.out.cell 2
          have zl := RZ.out.lt
          have xl := RX.out.lt
          have sl := RS.out.lt
          cases hlit : littleF ops with
          | false =>
            have HLIT := Lib.hid hlit
            clear hlit
            go_wp2_with (first
              | (go_at_call 19; (with_reducible refine (same_yes RE.out (row_extF RU.out) HFL2.out).mono ?_); rintro e w5 ⟨rfl, hb⟩; have hb5 := hb; have HB5 := Lib.hid hb5; have hz9 := RZ.out.below hb5 RZ.out.lt; have hx9 := RX.out.below hb5 RX.out.lt; have hs9 := RS.out.below hb5 RS.out.lt; obtain ⟨qz0, qz1, qz2, qz3, qz4⟩ := hz9.five; obtain ⟨qx0, qx1, qx2, qx3, qx4⟩ := hx9.five; have qs0 := hs9.cell 0; have qs1 := hs9.cell 1; have qs2 := hs9.cell 2; have qzl := hz9.lt; have qxl := hx9.lt; have qsl := hs9.lt; clear hz9 hx9 hs9; have HX5 := Lib.hid (HE.out.on (RL.out.trans (hb5.mono RL.out.size))); clear hb hb5)
              | (go_at_call 33; (with_reducible refine (little_any HX5.out hr (fun j op hj => HU.out op (List.mem_of_getElem? hj))).mono ?_); rw [HLIT.out]; rintro e wx ⟨rfl, rfl⟩)
              | (go_at_call 26; (with_reducible refine (check_at (RE.out.on HB5.out) HFL2.out (HCK.out HLIT.out)).mono ?_); rintro e w6 ⟨rfl, hb⟩; have hb6 := HB5.out.trans (hb.mono HB5.out.size); have HB6 := Lib.hid hb6; have hz9 := RZ.out.below hb6 RZ.out.lt; have hx9 := RX.out.below hb6 RX.out.lt; have hs9 := RS.out.below hb6 RS.out.lt; obtain ⟨pz0, pz1, pz2, pz3, pz4⟩ := hz9.five; obtain ⟨px0, px1, px2, px3, px4⟩ := hx9.five; have ps0 := hs9.cell 0; have ps1 := hs9.cell 1; have ps2 := hs9.cell 2; have pzl := hz9.lt; have pxl := hx9.lt; have psl := hs9.lt; clear hz9 hx9 hs9; clear hb hb6))
            go_ret
            exact ⟨rfl, RL.out.trans (HB5.out.mono RL.out.size)⟩
          | true =>
            have HLIT := Lib.hid hlit
            clear hlit
            go_wp2_with (first
              | (go_at_call 19; (with_reducible refine (same_yes RE.out (row_extF RU.out) HFL2.out).mono ?_); rintro e w5 ⟨rfl, hb⟩; have hb5 := hb; have HB5 := Lib.hid hb5; have hz9 := RZ.out.below hb5 RZ.out.lt; have hx9 := RX.out.below hb5 RX.out.lt; have hs9 := RS.out.below hb5 RS.out.lt; obtain ⟨qz0, qz1, qz2, qz3, qz4⟩ := hz9.five; obtain ⟨qx0, qx1, qx2, qx3, qx4⟩ := hx9.five; have qs0 := hs9.cell 0; have qs1 := hs9.cell 1; have qs2 := hs9.cell 2; have qzl := hz9.lt; have qxl := hx9.lt; have qsl := hs9.lt; clear hz9 hx9 hs9; have HX5 := Lib.hid (HE.out.on (RL.out.trans (hb5.mono RL.out.size))); clear hb hb5)
              | (go_at_call 33; (with_reducible refine (little_any HX5.out hr (fun j op hj => HU.out op (List.mem_of_getElem? hj))).mono ?_); rw [HLIT.out]; rintro e wx ⟨rfl, rfl⟩)
              | (go_at_call 26; (with_reducible refine (check_at (RE.out.on HB5.out) HFL2.out (HCK.out HLIT.out)).mono ?_); rintro e w6 ⟨rfl, hb⟩; have hb6 := HB5.out.trans (hb.mono HB5.out.size); have HB6 := Lib.hid hb6; have hz9 := RZ.out.below hb6 RZ.out.lt; have hx9 := RX.out.below hb6 RX.out.lt; have hs9 := RS.out.below hb6 RS.out.lt; obtain ⟨pz0, pz1, pz2, pz3, pz4⟩ := hz9.five; obtain ⟨px0, px1, px2, px3, px4⟩ := hx9.five; have ps0 := hs9.cell 0; have ps1 := hs9.cell 1; have ps2 := hs9.cell 2; have pzl := hz9.lt; have pxl := hx9.lt; have psl := hs9.lt; clear hz9 hx9 hs9; clear hb hb6))
            go_ret
            exact ⟨rfl, RL.out.trans (HB6.out.mono RL.out.size)⟩
end Go.Proofs.Ytiifhkfkcljoiaa
