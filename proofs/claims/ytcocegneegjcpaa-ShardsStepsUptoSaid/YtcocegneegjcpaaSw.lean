/- THE WALKS of the document's own answers for shards: Step as one contract, Many, Whole. -/
import Derived.Test.YtcocegneegjcpaaSv
import Derived.Test.YtcocegneegjcpaaSl
import Derived.Deep.LoopGhost
namespace Go.Proofs.Ytcocegneegjcpaa
open Go Go.RowKit

set_option maxRecDepth 100000
theorem rs_op {w : World} {g0 c0 : Nat} {ws : List Int} (h : Lies w g0 ws) (hg : g0 < w.heap.size) (h0 : 0 < ws.length) (hl : ws.length ≤ 64) {k : Int} {i : Nat} {y : Int} (hr : RightN k i y) (hi : i ≤ 9223372036854775807) {t : Nat} {s x : Int} (ht : t < many ws.length k) (hs : t = 0 → s = 0) (hx : ws[cellOf ws.length k i t]? = some x) (hux : U64 x) :
    Calls Try.prog 28 #[.slice (some ⟨g0, 0, none⟩) ws.length c0, .agg #[.int .u8 k, .int .i64 (i : Int), .int .u64 y, .int .i64 (t : Int), .int .u64 s]] w
      (RStepD w ws.length (ws.set (cellOf ws.length k i t) (putOf k y x)) [.int .u8 k, .int .i64 (i : Int), .int .u64 y, .int .i64 ((t : Int) + 1), .int .u64 (sumOf k y s x)] (didV ws.length k i y t x)) := by
  rcases hr with rfl | ⟨rfl, rfl⟩ | ⟨rfl, rfl, rfl⟩ | ⟨rfl, rfl, rfl⟩
  · have ht0 : t = 0 := by simp [many] at ht; exact ht
    subst ht0
    obtain rfl := hs rfl
    exact rs_add h hg h0 hl (show ws[i % ws.length]? = some x from hx) hi
  · have ht0 : t = 0 := by simp [many] at ht; exact ht
    subst ht0
    obtain rfl := hs rfl
    exact rs_read h hg h0 hl (show ws[i % ws.length]? = some x from hx) hi hux
  · exact rs_sum h hg h0 hl (show ws[t]? = some x from hx)
  · exact rs_take h hg h0 hl (show ws[t]? = some x from hx)
theorem rmany_any (n : Nat) (k i y : Int) (w : World) :
    Calls Try.prog 65 #[.int .i64 (n : Int), .agg #[.int .u8 k, .int .i64 i, .int .u64 y]] w fun e w' => e = .returned (.int .i64 ((many n k : Nat) : Int)) ∧ Below w.heap.size w w' := by
  have hB : Hid (∀ o, Below w.heap.size w (w.alloc o)) := Lib.hid (fun o => (Below.refl _ _).alloc (Nat.le_refl _) o)
  by_cases h3 : k = 3
  · subst h3
    have HM : Hid (many n 3 = n) := Lib.hid (by simp [many])
    go_enter Try.func65, Try.ntmps65
    go_wp2
    go_ret
    exact ⟨by rw [HM.out]; rfl, hB.out _⟩
  by_cases h4 : k = 4
  · subst h4
    have HM : Hid (many n 4 = n) := Lib.hid (by simp [many])
    clear h3
    go_enter Try.func65, Try.ntmps65
    go_wp2
    go_ret
    exact ⟨by rw [HM.out]; rfl, hB.out _⟩
  have e3 : (k == 3) = false := by simpa using h3
  have e4 : (k == 4) = false := by simpa using h4
  have HM : Hid (many n k = 1) := Lib.hid (by simp [many, h3, h4])
  clear h3 h4
  go_enter Try.func65, Try.ntmps65
  go_wp2
  go_ret
  exact ⟨by rw [HM.out]; rfl, hB.out _⟩
/-- the cells, and what an operation has come to, behind so many actions alone -/
def stS (k : Int) (i : Nat) (y : Int) (ws : List Int) : Nat → List Int × Int
  | 0 => (ws, 0)
  | t + 1 => ((stS k i y ws t).1.set (cellOf ws.length k i t) (putOf k y ((stS k i y ws t).1.getD (cellOf ws.length k i t) 0)), sumOf k y (stS k i y ws t).2 ((stS k i y ws t).1.getD (cellOf ws.length k i t) 0))
theorem stS_length (k : Int) (i : Nat) (y : Int) (ws : List Int) (t : Nat) : (stS k i y ws t).1.length = ws.length := by
  induction t with
  | zero => rfl
  | succ t ih => simp only [stS, List.length_set]; exact ih
theorem stS_u64 {k : Int} {i : Nat} {y : Int} {ws : List Int} (h : ∀ x, x ∈ ws → U64 x) (t : Nat) : ∀ x, x ∈ (stS k i y ws t).1 → U64 x := by
  induction t with
  | zero => exact h
  | succ t ih =>
    intro x hx
    simp only [stS] at hx
    rcases List.mem_or_eq_of_mem_set hx with hx | rfl
    · exact ih x hx
    · unfold putOf
      split
      · exact u64_wrap _
      · split
        · exact U64.zero
        · by_cases hl : cellOf ws.length k i t < (stS k i y ws t).1.length
          · have e : (stS k i y ws t).1.getD (cellOf ws.length k i t) 0 = (stS k i y ws t).1[cellOf ws.length k i t] := by simp [List.getD, hl]
            rw [e]
            exact ih _ (List.getElem_mem _)
          · have e : (stS k i y ws t).1.getD (cellOf ws.length k i t) 0 = 0 := by simp [List.getD, hl]
            rw [e]
            exact U64.zero
theorem stS_add {i : Nat} {y x : Int} {ws : List Int} (hx : ws[i % ws.length]? = some x) : stS 1 i y ws (many ws.length 1) = (ws.set (i % ws.length) (IntKind.u64.wrap (x + y)), IntKind.u64.wrap (x + y)) := by
  have e : many ws.length 1 = 1 := by simp [many]
  rw [e]
  simp [stS, cellOf, putOf, sumOf, List.getD, hx]
theorem stS_read {i : Nat} {x : Int} {ws : List Int} (hx : ws[i % ws.length]? = some x) : stS 2 i 0 ws (many ws.length 2) = (ws, x) := by
  have e : many ws.length 2 = 1 := by simp [many]
  rw [e]
  simp [stS, cellOf, putOf, sumOf, List.getD, hx, set_same hx]
theorem stS_sum_at (ws : List Int) (t : Nat) (ht : t ≤ ws.length) : stS 3 0 0 ws t = (ws, sumW (ws.take t)) := by
  induction t with
  | zero => rfl
  | succ t ih =>
    have hx : ws[t]? = some ws[t] := List.getElem?_eq_getElem (by omega)
    simp only [stS, ih (by omega)]
    rw [sumW_take ws hx]
    simp [cellOf, putOf, sumOf, List.getD, hx, set_same hx]
theorem stS_sum (ws : List Int) : stS 3 0 0 ws (many ws.length 3) = (ws, sumW ws) := by
  have e : many ws.length 3 = ws.length := by simp [many]
  rw [e, stS_sum_at ws _ (Nat.le_refl _), List.take_length]
theorem stS_take_at (ws : List Int) (t : Nat) (ht : t ≤ ws.length) : stS 4 0 0 ws t = (zeroed ws t, sumW (ws.take t)) := by
  induction t with
  | zero => simp [stS, zeroed_zero]; rfl
  | succ t ih =>
    have hx : ws[t]? = some ws[t] := List.getElem?_eq_getElem (by omega)
    have hz : (zeroed ws t)[t]? = some ws[t] := by rw [zeroed_get]; exact hx
    simp only [stS, ih (by omega)]
    rw [sumW_take ws hx, ← zeroed_set ws (by omega)]
    simp [cellOf, putOf, sumOf, List.getD, hz]
theorem stS_take (ws : List Int) : stS 4 0 0 ws (many ws.length 4) = (List.replicate ws.length 0, sumW ws) := by
  have e : many ws.length 4 = ws.length := by simp [many]
  rw [e, stS_take_at ws _ (Nat.le_refl _), List.take_length, zeroed_all]
/-- what Whole leaves -/
def WholeS (w : World) (g0 : Nat) (ws : List Int) (s : Int) (e : Ending) (w' : World) : Prop :=
  ∃ g c, e = .returned (.tuple #[.slice (some ⟨g, 0, none⟩) ws.length c, .int .u64 s]) ∧ Lies w' g ws ∧ g < w'.heap.size ∧ (g = g0 ∨ w.heap.size ≤ g) ∧ Below w.heap.size w w'
/-- in Whole's loop -/
structure WholeR (w : World) (n b3 b6 g t : Nat) (k : Int) (i : Nat) (y s : Int) (ws : List Int) (wr : World) : Prop where
  lies : Lies wr g ws
  glt : g < wr.heap.size
  op : Row wr b3 67 [.int .u8 k, .int .i64 (i : Int), .int .u64 y]
  u : Row wr b6 70 [.int .u8 k, .int .i64 (i : Int), .int .u64 y, .int .i64 (t : Int), .int .u64 s]
  gt : w.heap.size ≤ b6
  low : Below w.heap.size w wr
  len : ws.length = n
theorem WholeR.drewN {w wr : World} {n b3 b6 g t : Nat} {k : Int} {i : Nat} {y s : Int} {ws : List Int} (h : WholeR w n b3 b6 g t k i y s ws wr) (m : Nat) : WholeR w n b3 b6 g t k i y s ws (wr.drewN m) :=
  ⟨h.lies, h.glt, h.op, h.u, h.gt, Below.drewNs h.low m, h.len⟩
theorem WholeR.on {w wr w1 : World} {n b3 b6 g t : Nat} {k : Int} {i : Nat} {y s : Int} {ws : List Int} (h : WholeR w n b3 b6 g t k i y s ws wr) (hb : Below wr.heap.size wr w1) : WholeR w n b3 b6 g t k i y s ws w1 :=
  ⟨h.lies.below hb h.glt, Nat.lt_of_lt_of_le h.glt hb.size, h.op.below hb h.op.lt, h.u.below hb h.u.lt, h.gt, h.low.trans (hb.mono h.low.size), h.len⟩
theorem Row.three3 {w : World} {b : Nat} {t : TypeId} {x0 x1 x2 : Value} (h : Row w b t [x0, x1, x2]) :
    w.cell? ⟨b, 0, none⟩ = some x0 ∧ w.cell? ⟨b, 1, none⟩ = some x1 ∧ w.cell? ⟨b, 2, none⟩ = some x2 := ⟨h.cell 0, h.cell 1, h.cell 2⟩
set_option maxHeartbeats 6400000
theorem rs_at {w : World} {g0 c0 n : Nat} {p : List Int} (h : Lies w g0 p) (hg : g0 < w.heap.size) (hn : p.length = n) (h0 : 0 < n) (hl : n ≤ 64) {k : Int} {i : Nat} {y : Int} (hr : RightN k i y) (hi : i ≤ 9223372036854775807) {t : Nat} {s x : Int} (ht : t < many n k) (hs : t = 0 → s = 0) (hx : p[cellOf n k i t]? = some x) (hux : U64 x) :
    Calls Try.prog 28 #[.slice (some ⟨g0, 0, none⟩) n c0, .agg #[.int .u8 k, .int .i64 (i : Int), .int .u64 y, .int .i64 (t : Int), .int .u64 s]] w
      (RStepD w n (p.set (cellOf n k i t) (putOf k y x)) [.int .u8 k, .int .i64 (i : Int), .int .u64 y, .int .i64 ((t : Int) + 1), .int .u64 (sumOf k y s x)] (didV n k i y t x)) := by
  subst hn
  exact rs_op h hg h0 hl hr hi ht hs hx hux
theorem rmany_at {n m : Nat} {k i y : Int} (h : many n k = m) (w : World) :
    Calls Try.prog 65 #[.int .i64 (n : Int), .agg #[.int .u8 k, .int .i64 i, .int .u64 y]] w fun e w' => e = .returned (.int .i64 (m : Int)) ∧ Below w.heap.size w w' := h ▸ rmany_any n k i y w
theorem WholeR.next {w w2 w3 : World} {n b3 b6 g g' t : Nat} {k : Int} {i : Nat} {y s s' : Int} {p p' : List Int} (h : WholeR w n b3 b6 g t k i y s p w2) (hb : Below w2.heap.size w2 w3) (hg : w2.heap.size ≤ g') (hl : Lies w3 g' p') (hlt : g' < w3.heap.size) (hlen : p'.length = n) (h36 : b3 < b6) :
    WholeR w n b3 b6 g' (t + 1) k i y s' p' (((((w3.setCell ⟨b6, 0, none⟩ (.int .u8 k)).setCell ⟨b6, 1, none⟩ (.int .i64 (i : Int))).setCell ⟨b6, 2, none⟩ (.int .u64 y)).setCell ⟨b6, 3, none⟩ (.int .i64 ((t : Int) + 1))).setCell ⟨b6, 4, none⟩ (.int .u64 s')) := by
  have h3 := h.on hb
  have hP : Part [b6] w3 (((((w3.setCell ⟨b6, 0, none⟩ (.int .u8 k)).setCell ⟨b6, 1, none⟩ (.int .i64 (i : Int))).setCell ⟨b6, 2, none⟩ (.int .u64 y)).setCell ⟨b6, 3, none⟩ (.int .i64 ((t : Int) + 1))).setCell ⟨b6, 4, none⟩ (.int .u64 s')) := (((((Part.refl [b6] w3).set (by simp) _).set (by simp) _).set (by simp) _).set (by simp) _).set (by simp) _
  have hlt6 := h.u.lt
  refine ⟨hl.part hP hlt (by simp; omega), Nat.lt_of_lt_of_le hlt hP.size, h3.op.part hP (by simp; omega), ?_, h.gt, h3.low.trans (hP.below h3.low.size (by simpa using h.gt)), hlen⟩
  exact ((((h3.u.set 0 _).set 1 _).set 2 _).set 3 _).set 4 _
theorem rwhole_any {w : World} {g0 c0 : Nat} {ws : List Int} (h : Lies w g0 ws) (hg : g0 < w.heap.size) (h0 : 0 < ws.length) (hl : ws.length ≤ 64) (hu : ∀ x, x ∈ ws → U64 x) {k : Int} {i : Nat} {y : Int} (hr : RightN k i y) (hi : i ≤ 9223372036854775807) :
    Calls Try.prog 37 #[.slice (some ⟨g0, 0, none⟩) ws.length c0, .agg #[.int .u8 k, .int .i64 (i : Int), .int .u64 y]] w (WholeS w g0 (stS k i y ws (many ws.length k)).1 (stS k i y ws (many ws.length k)).2) := by
  have H := Lib.hid h
  have HU := Lib.hid hu
  have HR := Lib.hid hr
  have HL := Lib.hid hl
  have HM : Hid (many ws.length k ≤ 64) := Lib.hid (Nat.le_trans (many_le h0 k) hl)
  have HLN := Lib.hid (stS_length k i y ws)
  clear h hu hr hl
  go_enter Try.func37, Try.ntmps37
  go_wp2
  go_loopg [0] (many ws.length k) (fun (m : Nat) v wr => ∃ t g c : Nat, t + m = many ws.length k ∧ v = .slice (some ⟨g, 0, none⟩) ws.length c ∧ (g = g0 ∨ w.heap.size ≤ g) ∧ WholeR w ws.length w.heap.size (w.heap.size + 1) g t k i y (stS k i y ws t).2 (stS k i y ws t).1 wr)
  case atStart => exact ⟨0, g0, c0, by omega, rfl, .inl rfl, ⟨H.out.below (((Below.refl _ _).alloc (Nat.le_refl _) _).alloc (by simp) _) hg, by simp; omega, (Row.new w _ _).alloc _, Row.new2 w _ _ _ rfl, by omega, ((Below.refl _ _).alloc (Nat.le_refl _) _).alloc (by simp) _, rfl⟩⟩
  case round =>
    obtain ⟨t, g, c, hm, rfl, hnew, hW⟩ := hrel
    have HNEW := Lib.hid hnew
    clear hnew
    obtain ⟨mn, hmn⟩ : ∃ mn, many ws.length k = mn := ⟨_, rfl⟩
    rw [hmn] at hm
    have HLEN : Hid ((stS k i y ws t).1.length = ws.length) := Lib.hid (HLN.out t)
    obtain ⟨p, s, hst⟩ : ∃ p s, stS k i y ws t = (p, s) := ⟨_, _, rfl⟩
    rw [hst] at hW HLEN
    have HUP : Hid (∀ x, x ∈ p → U64 x) := Lib.hid (by have := stS_u64 (k := k) (i := i) (y := y) HU.out t; rw [hst] at this; exact this)
    have HST := Lib.hid hst
    have HMN := Lib.hid hmn
    have HW := Lib.hid hW
    obtain ⟨u0, u1, u2, u3, u4⟩ := hW.u.five5
    obtain ⟨p0, p1, p2⟩ := hW.op.three3
    have uf := hW.u.free
    have ult := hW.u.lt
    have plt := hW.op.lt
    clear hW hst hmn
    by_cases hlt : t < mn
    · have hlt2 : (t : Int) < (mn : Int) := by omega
      have HCL : Hid (cellOf ws.length k i t < p.length) := Lib.hid (by have h1 := HLEN.out; have h2 := cell_lt (n := ws.length) h0 (k := k) (i := i) (t := t) (by rw [HMN.out]; exact hlt); dsimp only at h1; omega)
      obtain ⟨x, hx⟩ : ∃ x, p[cellOf ws.length k i t]? = some x := ⟨_, List.getElem?_eq_getElem HCL.out⟩
      have HX := Lib.hid hx
      have HT0 : Hid (t = 0 → s = 0) := Lib.hid (fun e => by have := HST.out; subst e; simp [stS] at this; exact this.2.symm)
      have HNX : Hid (stS k i y ws (t + 1) = (p.set (cellOf ws.length k i t) (putOf k y x), sumOf k y s x)) := Lib.hid (by simp [stS, HST.out, List.getD, HX.out])
      clear hx
      go_wp2
      go_region_held3 (fun w' => w'.cell? ⟨w.heap.size + 1, 3, none⟩ = some (.int .i64 (t : Int)) ∧ w'.cell? ⟨w.heap.size, 0, none⟩ = some (.int .u8 k) ∧ w'.cell? ⟨w.heap.size, 1, none⟩ = some (.int .i64 (i : Int)) ∧ w'.cell? ⟨w.heap.size, 2, none⟩ = some (.int .u64 y))
        (first | (with_reducible exact ⟨y3, z0, z1, z2⟩) | (with_reducible exact ⟨u3, p0, p1, p2⟩) | go_keep)
        (first | (go_at_call 65; refine (rmany_at HMN.out _).mono ?_; rintro e w2 ⟨rfl, hb2⟩; have HW2 := Lib.hid ((HW.out.drewN 1).on hb2); obtain ⟨y0, y1, y2, y3, y4⟩ := HW2.out.u.five5; obtain ⟨z0, z1, z2⟩ := HW2.out.op.three3; have yf := HW2.out.u.free; have ylt := HW2.out.u.lt; clear hb2))
      all_goals
        go_wp2_with (go_at_call 28; refine (rs_at HW2.out.lies HW2.out.glt HLEN.out h0 HL.out HR.out hi (by rw [HMN.out]; exact hlt) HT0.out HX.out (HUP.out _ (List.mem_of_getElem? HX.out))).mono ?_; rintro e w3 ⟨g', c', rfl, hg', hown, hb3⟩; have HG := Lib.hid hg'; have HO := Lib.hid hown; have HB3 := Lib.hid hb3; have hr6 := HW2.out.u.below hb3 HW2.out.u.lt; obtain ⟨k0, k1, k2, k3, k4⟩ := hr6.five5; have kf := hr6.free; have klt := hr6.lt; clear hg' hown hb3 hr6)
        go_roundg (mn - (t + 1))
        case measure => omega
        case rel =>
          refine ⟨t + 1, g', c', by rw [HMN.out]; omega, rfl, .inr (Nat.le_trans HW2.out.low.size HG.out), ?_⟩
          rw [HNX.out]
          exact HW2.out.next HB3.out HG.out (own_lies HO.out) (by have h1 := World.block_lt_of_cell? _ _ (own_lies HO.out _ _ (List.getElem?_eq_getElem (show 0 < (p.set (cellOf ws.length k i t) (putOf k y x)).length by rw [List.length_set]; have := HCL.out; omega))); exact h1) (by rw [List.length_set]; exact HLEN.out) (by omega)
    · obtain rfl : t = mn := by omega
      have hlt2 : ¬ (t : Int) < (t : Int) := by omega
      go_wp2
      go_region_held3 (fun w' => w'.cell? ⟨w.heap.size + 1, 3, none⟩ = some (.int .i64 (t : Int)) ∧ w'.cell? ⟨w.heap.size, 0, none⟩ = some (.int .u8 k) ∧ w'.cell? ⟨w.heap.size, 1, none⟩ = some (.int .i64 (i : Int)) ∧ w'.cell? ⟨w.heap.size, 2, none⟩ = some (.int .u64 y))
        (first | (with_reducible exact ⟨y3, z0, z1, z2⟩) | (with_reducible exact ⟨u3, p0, p1, p2⟩) | go_keep)
        (first | (go_at_call 65; refine (rmany_at HMN.out _).mono ?_; rintro e w2 ⟨rfl, hb2⟩; have HW2 := Lib.hid ((HW.out.drewN 1).on hb2); obtain ⟨y0, y1, y2, y3, y4⟩ := HW2.out.u.five5; obtain ⟨z0, z1, z2⟩ := HW2.out.op.three3; have yf := HW2.out.u.free; have ylt := HW2.out.u.lt; clear hb2))
      all_goals
        go_wp2
        go_quiet (fail)
        go_wp2
        go_ret2
        rw [HMN.out, HST.out]
        refine ⟨g, c, ?_, HW2.out.lies, HW2.out.glt, HNEW.out, Below.drewNs HW2.out.low _⟩
        show _ = Ending.returned (.tuple #[.slice (some ⟨g, 0, none⟩) p.length c, .int .u64 s])
        rw [show p.length = ws.length from HLEN.out]
        rfl
end Go.Proofs.Ytcocegneegjcpaa
