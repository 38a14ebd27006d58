/- THE WALK of the document's ring: Do, over its Step as one contract. -/
import Derived.Test.YtjehcgeodcpcaaaKw
import Derived.Test.YtjehcgeodcpcaaaKk
namespace Go.Proofs.Ytjehcgeodcpcaaa
open Go Go.RowKit

/-- Step, over numbers that are letters -/
theorem dstepn_at {W w : World} {A : Option Addr} {n c : Nat} {ws ws2 : List Int} {wd : Int} {o o2 : OpN} {x : DN} (hn : ws.length = n) (h : w.ownsRow W.heap.size 37 1 (.slice A n c) n (u64s ws)) (hlow : W.heap.size ≤ w.heap.size) (hp : 0 < ws.length) (hl : ws.length ≤ 4096) (hw : 1 ≤ wd) (hw2 : wd ≤ 1152921504606846976) (ht : x.t ≤ 9223372036854775807) (hu : ∀ u ∈ ws, U64 u) (ho : OkN o) (hf : FineN wd o.k x.t o.n o.q) (hd : DocN n x.t o x) (h1 : stepNW ws o = ws2) (h2 : stepN ws o = o2) :
    Calls Try.prog 12 #[.agg #[.int .i64 wd, .slice A n c], .agg #[.int .u8 x.k, .int .i64 x.t, .int .u64 x.n, .bool x.bg, .bool x.ld, .int .u64 x.saw, .int .i64 x.nx, .bool x.en, .int .u64 x.sm, .int .i64 x.why]] w fun e w' => ∃ A' c' x' d0 d1 d2 d3 d4, e = .returned (.tuple #[.agg #[.int .i64 wd, .slice A' n c'], .agg #[.int .u8 x'.k, .int .i64 x'.t, .int .u64 x'.n, .bool x'.bg, .bool x'.ld, .int .u64 x'.saw, .int .i64 x'.nx, .bool x'.en, .int .u64 x'.sm, .int .i64 x'.why], .agg #[.int .u8 d0, .int .i64 d1, .int .u64 d2, .int .u64 d3, .bool d4]]) ∧ w'.ownsRow W.heap.size 37 1 (.slice A' n c') n (u64s ws2) ∧ DocN n x.t o2 x' ∧ Below w.heap.size w w' := by
  subst hn h1 h2
  obtain ⟨d0, d1, d2, d3, d4, hdi⟩ := did_fiveN ws o
  refine (dstepn_op (c := c) h hlow hp hl hw hw2 ht hu ho hf hd).mono ?_
  rintro e w' ⟨A', c', x', he, ho', hd', hb'⟩
  rw [hdi] at he
  exact ⟨A', c', x', d0, d1, d2, d3, d4, he, ho', hd', hb'⟩
/-- how far the document's operation is from its end, by its cells -/
def muD (len q : Nat) (w : World) (b : Nat) : Nat :=
  match w.cell? ⟨b, 0, none⟩, w.cell? ⟨b, 3, none⟩, w.cell? ⟨b, 4, none⟩, w.cell? ⟨b, 6, none⟩, w.cell? ⟨b, 7, none⟩ with
  | some (.int _ k), some (.bool bg), some (.bool ld), some (.int _ nx), some (.bool en) => if en then 0 else if k = 1 then (if ld then 1 else 2) else if bg then (q - nx).toNat + 1 else q - (q + 1 - len) + 1
  | _, _, _, _, _ => 0
theorem muD_row {w : World} {b len : Nat} {t : Int} {o : OpN} {x : DN} {ty : TypeId} (h : Row w b ty [.int .u8 x.k, .int .i64 x.t, .int .u64 x.n, .bool x.bg, .bool x.ld, .int .u64 x.saw, .int .i64 x.nx, .bool x.en, .int .u64 x.sm, .int .i64 x.why]) (hd : DocN len t o x) (ho : OkN o) : muD len o.q w b = muO o := by
  have e0 : w.cell? ⟨b, 0, none⟩ = some (.int .u8 x.k) := h.cell 0
  have e3 : w.cell? ⟨b, 3, none⟩ = some (.bool x.bg) := h.cell 3
  have e4 : w.cell? ⟨b, 4, none⟩ = some (.bool x.ld) := h.cell 4
  have e6 : w.cell? ⟨b, 6, none⟩ = some (.int .i64 x.nx) := h.cell 6
  have e7 : w.cell? ⟨b, 7, none⟩ = some (.bool x.en) := h.cell 7
  unfold muD
  rw [e0, e3, e4, e6, e7]
  dsimp only
  rw [hd.en, hd.k]
  have h3 := ho.ph
  unfold muO
  by_cases h2 : o.ph = 2
  · simp [h2]
  · rw [if_neg (by simpa using h2)]
    rcases ho.kind with hk | hk
    · obtain ⟨_, a, _⟩ := hd.add hk h2
      rw [a, if_pos hk]
      by_cases h0 : o.ph = 0
      · simp [h0, hk]
      · have h1 : o.ph = 1 := by omega
        simp [h1]
    · have h0 : o.ph = 0 := by
        by_cases h1 : o.ph = 1
        · have := (ho.one h1).1; omega
        · omega
      obtain ⟨_, _, _, _, hh⟩ := hd.sum hk h2
      rw [if_neg (show ¬ o.k = 1 by omega), if_pos h0, if_neg (show ¬ o.k = 1 by omega)]
      rcases hh with ⟨hb, hx⟩ | ⟨hb, _, hx⟩
      · rw [hb, hx, if_pos rfl]; omega
      · rw [hb, if_neg (by simp)]; omega
set_option maxRecDepth 100000
set_option maxHeartbeats 3200000
theorem dfault_of {wd k t n v : Int} {A : Option Addr} {len cap : Nat} (hw : 1 ≤ wd) (hw2 : wd ≤ 1152921504606846976) (ht : t ≤ 9223372036854775807) (hn : U64 n) (he : checkE wd k t n = v) (w : World) :
    Calls Try.prog 11 #[.agg #[.int .i64 wd, .slice A len cap], .agg #[.int .u8 k, .int .i64 t, .int .u64 n]] w fun e w' => e = .returned (.int .i64 v) ∧ Below w.heap.size w w' := he ▸ dfault_any hw hw2 ht hn w
theorem ddo_no {w : World} {A : Option Addr} {len c : Nat} {wd k t m v : Int} (hw : 1 ≤ wd) (hw2 : wd ≤ 1152921504606846976) (ht : t ≤ 9223372036854775807) (hm : U64 m) (he : checkE wd k t m = v) (hv : v ≠ 0) :
    Calls Try.prog 17 #[.agg #[.int .i64 wd, .slice A len c], .agg #[.int .u8 k, .int .i64 t, .int .u64 m]] w fun e w' => e = .returned (.tuple #[.agg #[.int .i64 wd, .slice A len c], .int .u64 0, .int .i64 v]) ∧ Below w.heap.size w w' := by
  have HE := Lib.hid he
  have HT := Lib.hid ht
  have HM := Lib.hid hm
  have dv : (v != 0) = true := by simpa using hv
  clear he ht hm hv
  go_enter Try.func17, Try.ntmps17
  go_wp2_with (go_at_call 11; (with_reducible refine (dfault_of hw hw2 HT.out HM.out HE.out _).mono ?_); rintro e w1 ⟨rfl, hb⟩; have HB1 := Lib.hid hb; have hr2 := (((Row.new w 31 [.int .i64 wd, .slice A len c]).alloc (.cells #[.int .u8 k, .int .i64 t, .int .u64 m] 39)).alloc (.cells #[.int .i64 0, .slice none 0 0] 31)).below hb (by simp; omega); have hr4 := (Row.new ((w.alloc (.cells #[.int .i64 wd, .slice A len c] 31)).alloc (.cells #[.int .u8 k, .int .i64 t, .int .u64 m] 39)) 31 [.int .i64 0, .slice none 0 0]).below hb (by simp); have y0 := hr2.cell 0; have y1 := hr2.cell 1; have ylt := hr2.lt; have z0 := hr4.cell 0; have z1 := hr4.cell 1; have zlt := hr4.lt; have zf := hr4.free; simp only [World.size_alloc] at z0 z1 zlt zf; clear hb hr2 hr4)
  refine bodyPost_ret (v := .tuple #[.agg #[.int .i64 wd, .slice A len c], .int .u64 0, .int .i64 v]) (by simp [results, Try.results17, go_sem, z0, z1]) rfl ⟨rfl, ?_⟩
  have l1 := HB1.out.size
  simp only [World.size_alloc] at l1
  exact (((below3 _ _ _).trans (HB1.out.mono (by simp; omega))).setCell (by simp; omega) _).setCell (by simp; omega) _
theorem ddo_op {W w : World} {A : Option Addr} {n c : Nat} {ws wsE : List Int} {wd k t m : Int} {q j : Nat} {oE : OpN} (hn : ws.length = n) (h : w.ownsRow W.heap.size 37 1 (.slice A n c) n (u64s ws)) (hlow : W.heap.size ≤ w.heap.size) (hp : 0 < n) (hl : n ≤ 4096) (hw : 1 ≤ wd) (hw2 : wd ≤ 1152921504606846976) (ht : t ≤ 9223372036854775807) (hu : ∀ u ∈ ws, U64 u) (hf : FineN wd k t m q) (hr : runN j (ws, newN n k q m) = (wsE, oE)) (hE : oE.ph = 2) :
    Calls Try.prog 17 #[.agg #[.int .i64 wd, .slice A n c], .agg #[.int .u8 k, .int .i64 t, .int .u64 m]] w fun e w' => ∃ A' c', e = .returned (.tuple #[.agg #[.int .i64 wd, .slice A' n c'], .int .u64 oE.ans, .int .i64 oE.why]) ∧ w'.ownsRow W.heap.size 37 1 (.slice A' n c') n (u64s wsE) ∧ Below w.heap.size w w' := by
  have HE := Lib.hid hf.check
  have HT := Lib.hid ht
  have HM : Hid (U64 m) := Lib.hid ⟨hf.num.1, by have := hf.num.2; omega⟩
  have HR := Lib.hid hr
  have HEE := Lib.hid hE
  have HN := Lib.hid hn
  have HU := Lib.hid hu
  have HF := Lib.hid hf
  have HOW := Lib.hid h
  have HLO := Lib.hid hlow
  have HOK1 : Hid (OkN (newN n k q m)) := Lib.hid (OkN.new hf.right (by omega) (by omega))
  have HD1 : Hid (DocN n t (newN n k q m) ⟨k, t, m, false, false, 0, 0, false, 0, 0⟩) := Lib.hid (DocN.new (by rcases hf.kind with e | ⟨e, _⟩; exact .inl e; exact .inr e))
  clear hn h hlow ht hu hf hr hE
  go_enter Try.func17, Try.ntmps17
  go_wp2_with (go_at_call 11; (with_reducible refine (dfault_of hw hw2 HT.out HM.out HE.out _).mono ?_); rintro e w1 ⟨rfl, hb⟩; have HB1 := Lib.hid hb; have hr2 := (((Row.new w 31 [.int .i64 wd, .slice A n c]).alloc (.cells #[.int .u8 k, .int .i64 t, .int .u64 m] 39)).alloc (.cells #[.int .i64 0, .slice none 0 0] 31)).below hb (by simp; omega); have hr3 := (row_new (w.alloc (.cells #[.int .i64 wd, .slice A n c] 31)) (w.heap.size + 1) (by simp) 39 [.int .u8 k, .int .i64 t, .int .u64 m]); have hr3' := (hr3.alloc (.cells #[.int .i64 0, .slice none 0 0] 31)).below hb (by simp); have hr4 := (row_new ((w.alloc (.cells #[.int .i64 wd, .slice A n c] 31)).alloc (.cells #[.int .u8 k, .int .i64 t, .int .u64 m] 39)) (w.heap.size + 1 + 1) (by simp) 31 [.int .i64 0, .slice none 0 0]).below hb (by simp); have y0 := hr3'.cell 0; have y1 := hr3'.cell 1; have y2 := hr3'.cell 2; have ylt := hr3'.lt; have HR2 := Lib.hid hr2; have HR4 := Lib.hid hr4; clear hb hr2 hr3 hr3' hr4)
  have HBW : Hid (Below w.heap.size w w1) := Lib.hid ((below3 _ _ _).trans (HB1.out.mono (by simp; omega)))
  have HL1 : Hid (w.heap.size + 1 + 1 < w1.heap.size) := Lib.hid HR4.out.lt
  have HP1 : Hid (Below w.heap.size w (w1.alloc (.cells #[.int .u8 k, .int .i64 t, .int .u64 m, .bool false, .bool false, .int .u64 0, .int .i64 0, .bool false, .int .u64 0, .int .i64 0] 45))) := Lib.hid (below_more HBW.out _)
  have HO2 := Lib.hid (own_part HOW.out (Part.of_below HP1.out (Nat.le_refl _) []) (by simp))
  have HR2' := Lib.hid (HR2.out.alloc (.cells #[.int .u8 k, .int .i64 t, .int .u64 m, .bool false, .bool false, .int .u64 0, .int .i64 0, .bool false, .int .u64 0, .int .i64 0] 45))
  have HR4' := Lib.hid (HR4.out.alloc (.cells #[.int .u8 k, .int .i64 t, .int .u64 m, .bool false, .bool false, .int .u64 0, .int .i64 0, .bool false, .int .u64 0, .int .i64 0] 45))
  have HR8' := Lib.hid (Row.new w1 45 [.int .u8 k, .int .i64 t, .int .u64 m, .bool false, .bool false, .int .u64 0, .int .i64 0, .bool false, .int .u64 0, .int .i64 0])
  obtain ⟨b8, hb8⟩ : ∃ b8, w1.heap.size = b8 := ⟨_, rfl⟩
  have HL8 : Hid (w.heap.size + 1 + 1 < b8) := Lib.hid (by rw [← hb8]; exact HL1.out)
  rw [hb8] at HR8'
  rw [hb8]
  clear hb8 HB1 HR2 HR4 HBW HL1
  go_loopw [] (fun wr => ∃ o wsx j x A' c', OkN o ∧ AloneN wsx o ∧ runN j (wsx, o) = (wsE, oE) ∧ wsx.length = n ∧ (∀ u ∈ wsx, U64 u) ∧ wr.ownsRow W.heap.size 37 1 (.slice A' n c') n (u64s wsx) ∧ DocN n t o x ∧ FineN wd o.k t o.n o.q ∧ o.q = q ∧ Row wr w.heap.size 31 [.int .i64 wd, .slice A' n c'] ∧ Row wr (w.heap.size + 1 + 1) 31 [.int .i64 0, .slice none 0 0] ∧ Row wr b8 45 [.int .u8 x.k, .int .i64 x.t, .int .u64 x.n, .bool x.bg, .bool x.ld, .int .u64 x.saw, .int .i64 x.nx, .bool x.en, .int .u64 x.sm, .int .i64 x.why] ∧ Below w.heap.size w wr) (fun wr => muD n q wr b8)
  case atStart => exact ⟨_, ws, j, ⟨k, t, m, false, false, 0, 0, false, 0, 0⟩, A, c, HOK1.out, fun e => absurd e (by simp [newN]), HR.out, HN.out, HU.out, HO2.out, HD1.out, HF.out, rfl, HR2'.out, HR4'.out, HR8'.out, HP1.out⟩
  case round =>
    obtain ⟨o, wsx, jx, x, A2, c2, hok, hal, hrj, hnx, hux, hown, hd, hf, hoq, hr2, hr4, hr8, hbl⟩ := hrel
    clear HR2' HR4' HR8' HP1 HO2 HOW y0 y1 y2 ylt
    obtain ⟨kx, tx, mx, bg, ld, sw, nx, en, sm, yx⟩ := x
    dsimp only at hr8
    have htx : tx = t := hd.t
    have hen : en = decide (o.ph = 2) := hd.en
    subst htx
    have HOK := Lib.hid hok
    have HAL := Lib.hid hal
    have HNX := Lib.hid hnx
    have HUX := Lib.hid hux
    have HOWN := Lib.hid hown
    have HD := Lib.hid hd
    have HFX := Lib.hid hf
    have HR2 := Lib.hid hr2
    have HR4 := Lib.hid hr4
    have HR8 := Lib.hid hr8
    have HBL := Lib.hid hbl
    have HM0 : Hid (muD n q wr b8 = muO o) := Lib.hid (by have := muD_row (x := ⟨kx, tx, mx, bg, ld, sw, nx, en, sm, yx⟩) hr8 hd hok; rw [hoq] at this; exact this)
    by_cases h2 : o.ph = 2
    · have hen2 : en = true := by rw [hen]; simpa using h2
      subst hen2
      rw [runN_over h2] at hrj
      obtain ⟨rfl, rfl⟩ : wsx = wsE ∧ o = oE := ⟨congrArg Prod.fst hrj, congrArg Prod.snd hrj⟩
      have HA : Hid (answerN o = .tuple #[.int .u64 o.ans, .int .i64 o.why]) := Lib.hid (if_pos h2)
      obtain ⟨v0, v1, v2, v3, v4, v5, v6, v7, v8, v9⟩ := hr8.ten
      clear hok hal hrj hnx hux hown hd hf hr4 hr2 hbl hen h2 hr8
      go_wp2_with (go_at_call 15; refine (dans_any (x := ⟨kx, tx, mx, bg, ld, sw, nx, true, sm, yx⟩) HOK.out.kind HD.out _).mono ?_; rw [HA.out]; rintro e w5 ⟨rfl, hb5⟩; have HB5 := Lib.hid hb5; have h2' := HR2.out.below hb5 HR2.out.lt; have h4' := HR4.out.below hb5 HR4.out.lt; have p0 := h2'.cell 0; have p1 := h2'.cell 1; have plt := h2'.lt; have z0 := h4'.cell 0; have z1 := h4'.cell 1; have zlt := h4'.lt; have zf := h4'.free; clear hb5 h2' h4')
      refine bodyPost_ret (v := .tuple #[.agg #[.int .i64 wd, .slice A2 n c2], .int .u64 o.ans, .int .i64 o.why]) (by simp [results, Try.results17, go_sem, z0, z1]) rfl ⟨A2, c2, rfl, ?_, ?_⟩
      · have h5 := own_part HOWN.out (Part.of_below HB5.out (Nat.le_refl _) []) (by simp)
        have h4' := HR4.out.below HB5.out HR4.out.lt
        exact own_part h5 (ringSet_part w5 (w.heap.size + 1 + 1) (.int .i64 wd) (.slice A2 n c2)) (fun z e => not_sing (own_off h5 h4' (by decide) z e))
      · exact ringSet_below (HBL.out.trans (HB5.out.mono HBL.out.size)) (by omega) (.int .i64 wd) (.slice A2 n c2)
    · have hen2 : en = false := by rw [hen]; simpa using h2
      subst hen2
      obtain ⟨j', rfl⟩ : ∃ j', jx = j' + 1 := by
        cases jx with
        | zero =>
          obtain rfl : o = oE := congrArg Prod.snd hrj
          exact absurd HEE.out h2
        | succ j' => exact ⟨j', rfl⟩
      have hrj' : runN j' (stepNW wsx o, stepN wsx o) = (wsE, oE) := hrj
      have HRJ := Lib.hid hrj'
      have hc64 : ∀ t, U64 (cellN wsx t) := fun t => hux _ (List.mem_of_getElem? (cellN_get (by omega) t))
      have HMU : Hid (muO (stepN wsx o) < muO o) := Lib.hid (muO_step hal hok h2)
      have HOK2 : Hid (OkN (stepN wsx o)) := Lib.hid (hok.step hc64)
      have HSM := Lib.hid (stepN_same wsx o)
      have HOQ := Lib.hid hoq
      have HUS : Hid (∀ u ∈ stepNW wsx o, U64 u) := Lib.hid (fun u hu => by
        unfold stepNW at hu
        split at hu
        · rename_i e
          rcases List.mem_or_eq_of_mem_set hu with hm | rfl
          · exact hux u hm
          · exact (hok.one e.1).2
        · exact hux u hu)
      have HPX : Hid (0 < wsx.length) := Lib.hid (by omega)
      have HLX : Hid (wsx.length ≤ 4096) := Lib.hid (by omega)
      obtain ⟨v0, v1, v2, v3, v4, v5, v6, v7, v8, v9⟩ := hr8.ten
      obtain ⟨p0, p1⟩ := hr2.two2
      have plt := hr2.lt
      have vlt := hr8.lt
      clear hok hal hrj hrj' hnx hux hown hd hf hr4 hr2 hbl hen h2 hr8 hc64 hoq
      have n28 : ¬ w.heap.size = b8 := by have := HL8.out; omega
      have n82 : ¬ b8 = w.heap.size := fun e => n28 e.symm
      go_wp2_with (go_at_call 12; refine (dstepn_at (x := ⟨kx, tx, mx, bg, ld, sw, nx, false, sm, yx⟩) HNX.out HOWN.out (Nat.le_trans HLO.out HBL.out.size) HPX.out HLX.out hw hw2 HT.out HUX.out HOK.out HFX.out HD.out rfl rfl).mono ?_; rintro e w5 ⟨A5, c5, x5, d0, d1, d2, d3, d4, rfl, ho5, hd5, hb5⟩; have HO5 := Lib.hid ho5; have HD5 := Lib.hid hd5; have HB5 := Lib.hid hb5; have h2' := HR2.out.below hb5 HR2.out.lt; have h8' := HR8.out.below hb5 HR8.out.lt; have HX2 := Lib.hid h2'; have HX8 := Lib.hid h8'; have HX4 := Lib.hid (HR4.out.below hb5 HR4.out.lt); obtain ⟨q0, q1⟩ := h2'.two2; have q2 := h2'.lt; have q3 := h2'.free; obtain ⟨r0, r1, r2, r3, r4, r5, r6, r7, r8, r9⟩ := h8'.ten; have r10 := h8'.lt; have r11 := h8'.free; clear ho5 hd5 hb5 h2' h8')
      have P1 := ringSet_part w5 w.heap.size (.int .i64 wd) (.slice A5 n c5)
      have P2 := dnSet_part (ringSet w5 w.heap.size (.int .i64 wd) (.slice A5 n c5)) b8 x5
      have S2 := Row.part (ringSet_row HX2.out (.int .i64 wd) (.slice A5 n c5)) P2 (not_sing n28)
      have S8 := dnSet_row (Row.part HX8.out P1 (not_sing (fun e => n28 e.symm))) x5
      have S4 := Row.part (Row.part HX4.out P1 (not_sing (by omega))) P2 (not_sing (by have := HL8.out; omega))
      have O1 := own_part HO5.out P1 (fun z e => not_sing (own_off HO5.out HX2.out (by decide) z e))
      have O2 := own_part O1 P2 (fun z e => not_sing (own_off O1 (Row.part HX8.out P1 (not_sing (fun e => n28 e.symm))) (by decide) z e))
      have B2 := dnSet_below (ringSet_below (HBL.out.trans (HB5.out.mono HBL.out.size)) (Nat.le_refl _) (.int .i64 wd) (.slice A5 n c5)) (show w.heap.size ≤ b8 by have := HL8.out; omega) x5
      have HS := Lib.hid (And.intro S2 (And.intro S8 (And.intro S4 (And.intro O2 B2))))
      clear P1 P2 S2 S8 S4 O1 O2 B2
      go_roundw
      case rel => exact ⟨stepN wsx o, stepNW wsx o, j', x5, A5, c5, HOK2.out, HAL.out.step, HRJ.out, by rw [stepNW_len]; exact HNX.out, HUS.out, HS.out.2.2.2.1, HD5.out, by rw [HSM.out.1, HSM.out.2.1, HSM.out.2.2]; exact HFX.out, by rw [HSM.out.2.2]; exact HOQ.out, HS.out.1, HS.out.2.2.1, HS.out.2.1, HS.out.2.2.2.2⟩
      case measure =>
        have h9 : muD n q (dnSet (ringSet w5 w.heap.size (.int .i64 wd) (.slice A5 n c5)) b8 x5) b8 = muO (stepN wsx o) := by
          have := muD_row (x := x5) HS.out.2.1 HD5.out HOK2.out
          rw [HSM.out.2.2, HOQ.out] at this
          exact this
        have h10 := HMU.out
        rw [← h9, ← HM0.out] at h10
        exact h10
end Go.Proofs.Ytjehcgeodcpcaaa
