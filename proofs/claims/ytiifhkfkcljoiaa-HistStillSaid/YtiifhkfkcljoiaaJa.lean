/- THE WALKS of package hist: the document's Fits; Check. -/
import Derived.Test.YtiifhkfkcljoiaaIt
import Derived.Test.YtiifhkfkcljoiaaWk
import Derived.Deep.RegionLaw
import Derived.Deep.AppendLies
import Derived.Laws.MakeOwn
namespace Go.Proofs.Ytiifhkfkcljoiaa
open Go Go.RowKit
set_option maxRecDepth 100000
set_option maxHeartbeats 3200000
/-- the first and the last one among the first k that is not nought; -1: none -/
def fstI (xs : List Int) : Nat → Int
  | 0 => -1
  | k + 1 => if xs.getD k 0 ≠ 0 ∧ fstI xs k < 0 then (k : Int) else fstI xs k
def lstI (xs : List Int) : Nat → Int
  | 0 => -1
  | k + 1 => if xs.getD k 0 ≠ 0 then (k : Int) else lstI xs k
theorem getD_some {xs : List Int} {k : Nat} {x : Int} (hx : xs[k]? = some x) : xs.getD k 0 = x := by rw [List.getD_eq_getElem?_getD, hx]; rfl
theorem fst_zero {xs : List Int} : ∀ {k : Nat}, allZ xs k → fstI xs k = -1
  | 0, _ => rfl
  | k + 1, hz => by
    have h1 := fst_zero (k := k) (fun j hj => hz j (by omega))
    simp only [fstI, getD_some (hz k (by omega)), h1]
    simp
theorem lst_zero {xs : List Int} : ∀ {k : Nat}, allZ xs k → lstI xs k = -1
  | 0, _ => rfl
  | k + 1, hz => by
    have h1 := lst_zero (k := k) (fun j hj => hz j (by omega))
    simp only [lstI, getD_some (hz k (by omega)), h1]
    simp
theorem fst_some {xs : List Int} {f : Nat} {x : Int} (hx : xs[f]? = some x) (hne : x ≠ 0) (hz : allZ xs f) : ∀ {k : Nat}, f < k → fstI xs k = f
  | 0, h => by omega
  | k + 1, h => by
    by_cases e : f = k
    · subst e
      simp only [fstI, getD_some hx, fst_zero hz]
      rw [if_pos ⟨hne, by decide⟩]
    · have h1 := fst_some hx hne hz (k := k) (by omega)
      simp only [fstI, h1]
      rw [if_neg (by omega)]
theorem lst_some {xs : List Int} {g : Nat} {y : Int} (hy : xs[g]? = some y) (hne : y ≠ 0) : ∀ {k : Nat}, g < k → (∀ j, g < j → j < k → xs[j]? = some 0) → lstI xs k = g
  | 0, h, _ => by omega
  | k + 1, h, hz => by
    by_cases e : g = k
    · subst e
      simp only [lstI, getD_some hy]
      rw [if_pos hne]
    · have h1 := lst_some hy hne (k := k) (by omega) (fun j a b => hz j a (by omega))
      simp only [lstI, h1, getD_some (hz k (by omega) (by omega))]
      simp
theorem fst_next {xs : List Int} {k : Nat} {x : Int} (hx : xs[k]? = some x) : fstI xs (k + 1) = if x ≠ 0 ∧ fstI xs k < 0 then (k : Int) else fstI xs k := by
  simp only [fstI, getD_some hx]
theorem lst_next {xs : List Int} {k : Nat} {x : Int} (hx : xs[k]? = some x) : lstI xs (k + 1) = if x ≠ 0 then (k : Int) else lstI xs k := by
  simp only [lstI, getD_some hx]
section
variable {w : World} {A : Option Addr} {c : Nat} {xs : List Int} {l h d xc su le gr : Int}
/-- the document's Index, whatever comes: the place, and whether it is one -/
theorem refIndex_all (r : Sc.rightB l h d = true) (v : Int) (w : World) : Calls Try.prog 71 #[.agg #[.int .i64 l, .int .i64 h, .int .i64 d], .int .i64 v] w fun e w' => e = .returned (.tuple #[.int .i64 (if 0 ≤ v ∧ v ≤ h then (ixH l d v : Int) else 0), .int .i64 (if 0 ≤ v ∧ v ≤ h then 0 else 2)]) ∧ Below w.heap.size w w' := by
  by_cases h0 : 0 ≤ v
  · by_cases h1 : v ≤ h
    · rw [if_pos ⟨h0, h1⟩, if_pos ⟨h0, h1⟩]
      exact Sc.refIndex_yes r h0 h1 w
    · rw [if_neg (fun a => h1 a.2), if_neg (fun a => h1 a.2)]
      exact Sc.refIndex_out2 r h0 (by omega) w
  · rw [if_neg (fun a => h0 a.1), if_neg (fun a => h0 a.1)]
    exact Sc.refIndex_out1 r (by omega) w
def okB (h v : Int) : Bool := decide (0 ≤ v) && decide (v ≤ h)
theorem refFits_any (r : Sc.rightB l h d = true) (hA : Ext .u64 w A xs) (hl : xs.length ≤ 17592186044416) (h0 : ∀ (j : Nat) (x : Int), xs[j]? = some x → 0 ≤ x) : Calls Try.prog 48 #[.agg #[.int .i64 l, .int .i64 h, .int .i64 d], .agg #[.int .u64 xc, .int .u64 su, .int .i64 le, .int .i64 gr, .slice A xs.length c]] w fun e w' => e = .returned (.bool (decide (xs.length = Sc.cnt l h d) && xc == sumU xs && fitsP l h d xs su le gr)) ∧ Below w.heap.size w w' := by
  have hb0 : Below w.heap.size w ((w.alloc (.cells #[.int .i64 l, .int .i64 h, .int .i64 d] 23)).alloc (.cells #[.int .u64 xc, .int .u64 su, .int .i64 le, .int .i64 gr, .slice A xs.length c] 44)) := ((Below.refl w.heap.size w).alloc (Nat.le_refl _) _).alloc (by simp) _
  have HB0 := Lib.hid hb0
  have HA := Lib.hid (hA.on hb0)
  have H0 := Lib.hid h0
  have R := Lib.hid r
  have HR1 : Hid (Row ((w.alloc (.cells #[.int .i64 l, .int .i64 h, .int .i64 d] 23)).alloc (.cells #[.int .u64 xc, .int .u64 su, .int .i64 le, .int .i64 gr, .slice A xs.length c] 44)) w.heap.size 23 [.int .i64 l, .int .i64 h, .int .i64 d]) := Lib.hid ((Row.new w 23 [.int .i64 l, .int .i64 h, .int .i64 d]).alloc _)
  have HR2 : Hid (Row ((w.alloc (.cells #[.int .i64 l, .int .i64 h, .int .i64 d] 23)).alloc (.cells #[.int .u64 xc, .int .u64 su, .int .i64 le, .int .i64 gr, .slice A xs.length c] 44)) (w.heap.size + 1) 44 [.int .u64 xc, .int .u64 su, .int .i64 le, .int .i64 gr, .slice A xs.length c]) := Lib.hid (Row.at_ (w := w.alloc (.cells #[.int .i64 l, .int .i64 h, .int .i64 d] 23)) (by simp))
  have HC : Hid (∀ w, Calls Try.prog 40 #[.agg #[.int .i64 l, .int .i64 h, .int .i64 d]] w fun e w' => e = .returned (.int .i64 (Sc.cnt l h d : Int)) ∧ Below w.heap.size w w') := Lib.hid (fun w => Sc.refCount_any r w)
  clear hA hb0 r h0
  by_cases h1 : xs.length = Sc.cnt l h d
  · have h1b : ((xs.length : Int) != ((Sc.cnt l h d : Nat) : Int)) = false := by rw [h1]; simp
    have H1B := Lib.hid h1b
    have E1 : Hid (decide (xs.length = Sc.cnt l h d) = true) := Lib.hid (decide_eq_true h1)
    rw [← h1] at HC h1b
    clear h1
    go_enter Try.func48, Try.ntmps48
    go_wp2_with (go_at_call 40; (with_reducible refine (HC.out _).mono ?_); rintro e w3 ⟨rfl, hb⟩; have HB3 := Lib.hid (HB0.out.trans (hb.mono HB0.out.size)); have HA3 := Lib.hid (HA.out.on hb); have HQ1 := Lib.hid (HR1.out.below hb HR1.out.lt); have HQ2 := Lib.hid (HR2.out.below hb HR2.out.lt); clear hb; obtain ⟨q0, q1, q2, q3, q4⟩ := HQ2.out.five; have p0 := HQ1.out.cell 0; have p1 := HQ1.out.cell 1; have p2 := HQ1.out.cell 2)
    clear H1B
    go_loopw [6, 7, 8, 9] (fun s f g i wr => ∃ k : Nat, k ≤ xs.length ∧ i = .int .i64 k ∧ s = .int .u64 (sumU (xs.take k)) ∧ f = .int .i64 (fstI xs k) ∧ g = .int .i64 (lstI xs k) ∧ w3 = wr) (fun _ _ _ i _ => xs.length - (intOf i).toNat)
    case atStart => exact ⟨0, Nat.zero_le _, rfl, rfl, rfl, rfl, rfl⟩
    case round =>
      obtain ⟨k, hk, rfl, rfl, hf, hg, rfl⟩ := hrel
      by_cases hlt : k < xs.length
      · obtain ⟨x, hx⟩ : ∃ x, xs[k]? = some x := ⟨xs[k], List.getElem?_eq_getElem hlt⟩
        obtain ⟨b, o, rfl, _, hc⟩ := HA3.out k x hx
        have hlt' : (k : Int) < (xs.length : Int) := by omega
        have hsum := sumU_snoc (xs.take k) x
        rw [take_snoc hx] at hsum
        have HS := Lib.hid hsum
        have HF := Lib.hid (fst_next hx)
        have HG := Lib.hid (lst_next hx)
        have hx0 := H0.out k x hx
        subst hf; subst hg
        clear hsum hx
        by_cases e0 : x = 0
        · have e1 : x ≤ 0 := by omega
          have E0 := Lib.hid e0
          clear e0
          go_wp2
          go_roundw
          case rel => exact ⟨k + 1, by omega, by go_num, by rw [← HS.out], by rw [HF.out, if_neg (fun a => a.1 E0.out)], by rw [HG.out, if_neg (fun a => a E0.out)], by trivial⟩
          case measure => simp [intOf]; omega
        · have e1 : 0 < x := by omega
          have E0 := Lib.hid e0
          clear e0
          generalize fstI xs k = p at *
          by_cases e2 : p < 0
          · go_wp2
            go_roundw
            case rel => exact ⟨k + 1, by omega, by go_num, by rw [← HS.out], by rw [HF.out, if_pos ⟨E0.out, e2⟩], by rw [HG.out, if_pos E0.out], by trivial⟩
            case measure => simp [intOf]; omega
          · have e3 : 0 ≤ p := by omega
            have E2 := Lib.hid e2
            clear e2
            go_wp2
            go_roundw
            case rel => exact ⟨k + 1, by omega, by go_num, by rw [← HS.out], by rw [HF.out, if_neg (fun a => E2.out a.2)], by rw [HG.out, if_pos E0.out], by trivial⟩
            case measure => simp [intOf]; omega
      · obtain rfl : k = xs.length := by omega
        rw [List.take_length]
        by_cases h2 : xc = sumU xs
        · have h2b : (sumU xs != xc) = false := by rw [h2]; simp
          have E2 : Hid ((xc == sumU xs) = true) := Lib.hid (by rw [h2]; simp)
          clear h2
          by_cases hz : fI xs = xs.length
          · have hz2 : allZ xs xs.length := hz ▸ fI_zero
            have E3 : Hid (fitsP l h d xs su le gr = fitsNone su le gr) := Lib.hid (by unfold fitsP; rw [if_pos hz])
            rw [fst_zero hz2] at hf
            rw [lst_zero hz2] at hg
            subst hf; subst hg
            clear hz hz2
            by_cases h1 : su = 0
            · subst h1
              by_cases h2 : le = -1
              · subst h2
                go_wp2
                go_ret
                exact ⟨by rw [E1.out, E2.out, E3.out]; simp [fitsNone], HB3.out⟩
              · have h2b : (le == -1) = false := by simpa using h2
                clear h2
                go_wp2
                go_ret
                exact ⟨by rw [E1.out, E2.out, E3.out]; simp [fitsNone, h2b], HB3.out⟩
            · have h1b : (su == 0) = false := by simpa using h1
              clear h1
              go_wp2
              go_ret
              exact ⟨by rw [E1.out, E2.out, E3.out]; simp [fitsNone, h1b], HB3.out⟩
          · obtain ⟨x, hx, hx0⟩ := fI_some hz
            obtain ⟨y, hy, hy0, hzz⟩ := gI_some hz
            have E3 : Hid (fitsP l h d xs su le gr = fitsB l h d (fI xs) (gI xs) x su le gr) := Lib.hid (by unfold fitsP; rw [if_neg hz, getD_some hx])
            have hfl := lt_of_get hx
            have hgl := lt_of_get hy
            rw [fst_some hx hx0 fI_zero hfl] at hf
            rw [lst_some hy hy0 hgl hzz] at hg
            obtain ⟨b, o, rfl, _, hc⟩ := HA3.out _ x hx
            have HX := Lib.hid hx
            clear hx hy hzz hx0 hy0 hgl hz
            generalize fI xs = f at *
            generalize gI xs = g at *
            subst hf; subst hg
            have hfl2 : (f : Int) < (xs.length : Int) := by omega
            obtain ⟨u, hu⟩ : ∃ u : Nat, ixH l d le = u := ⟨_, rfl⟩
            obtain ⟨v, hv⟩ : ∃ v : Nat, ixH l d gr = v := ⟨_, rfl⟩
            by_cases a1 : 0 ≤ le ∧ le ≤ h
            · have X5 := Lib.hid (show (if 0 ≤ le ∧ le ≤ h then (ixH l d le : Int) else 0) = (u : Int) by rw [if_pos a1, hu])
              have Y5 := Lib.hid (show (if 0 ≤ le ∧ le ≤ h then (0 : Int) else 2) = 0 from if_pos a1)
              by_cases a2 : 0 ≤ gr ∧ gr ≤ h
              · have X6 := Lib.hid (show (if 0 ≤ gr ∧ gr ≤ h then (ixH l d gr : Int) else 0) = (v : Int) by rw [if_pos a2, hv])
                have Y6 := Lib.hid (show (if 0 ≤ gr ∧ gr ≤ h then (0 : Int) else 2) = 0 from if_pos a2)
                by_cases a3 : u = f
                · have b3 : ((u : Int) != (f : Int)) = false := by rw [a3]; simp
                  have i1 : isInB l h d le f = true := by simp [isInB, a1.1, a1.2, hu, a3]
                  by_cases a4 : v = g
                  · have b4 : ((v : Int) != (g : Int)) = false := by rw [a4]; simp
                    have i2 : isInB l h d gr g = true := by simp [isInB, a2.1, a2.2, hv, a4]
                    have I1 := Lib.hid i1
                    have I2 := Lib.hid i2
                    clear i1 i2 a1 a2 a3 a4 hu hv
                    by_cases a5 : gr < le
                    · have h3b : decide (le ≤ gr) = false := by simp; omega
                      have H3 := Lib.hid h3b
                      clear h3b
                      go_wp2_with (first | (go_at_call 71; (with_reducible refine (refIndex_all R.out le _).mono ?_); rw [X5.out, Y5.out]; rintro e w5 ⟨rfl, hb⟩; have HC5 := Lib.hid (HB3.out.trans (hb.mono HB3.out.size)); have HA5 := Lib.hid (HA3.out.on hb); have HP5 := Lib.hid (HQ1.out.below hb HQ1.out.lt); have HS5 := Lib.hid (HQ2.out.below hb HQ2.out.lt); clear hb; have p0 := HP5.out.cell 0; have p1 := HP5.out.cell 1; have p2 := HP5.out.cell 2; obtain ⟨q0, q1, q2, q3, q4⟩ := HS5.out.five; obtain ⟨b9, o9, he9, _, hc9⟩ := HA5.out _ _ HX.out; cases he9) | (go_at_call 71; (with_reducible refine (refIndex_all R.out gr _).mono ?_); rw [X6.out, Y6.out]; rintro e w6 ⟨rfl, hb⟩; have HC6 := Lib.hid (HC5.out.trans (hb.mono HC5.out.size)); have HA6 := Lib.hid (HA5.out.on hb); have HP6 := Lib.hid (HP5.out.below hb HP5.out.lt); have HS6 := Lib.hid (HS5.out.below hb HS5.out.lt); clear hb; have p0 := HP6.out.cell 0; have p1 := HP6.out.cell 1; have p2 := HP6.out.cell 2; obtain ⟨q0, q1, q2, q3, q4⟩ := HS6.out.five; obtain ⟨b9, o9, he9, _, hc9⟩ := HA6.out _ _ HX.out; cases he9))
                      go_ret
                      exact ⟨by rw [E1.out, E2.out, E3.out]; simp [fitsB, I1.out, I2.out, H3.out], HC6.out⟩
                    · have h3b : decide (le ≤ gr) = true := by simp; omega
                      have H3 := Lib.hid h3b
                      have h3' : le ≤ gr := by omega
                      clear h3b a5
                      by_cases a6 : f = g
                      · subst a6
                        by_cases a7 : x = 1
                        · subst a7
                          by_cases a8 : le = gr
                          · have h8b : (le == gr) = true := by simpa using a8
                            clear a8
                            go_wp2_with (first | (go_at_call 71; (with_reducible refine (refIndex_all R.out le _).mono ?_); rw [X5.out, Y5.out]; rintro e w5 ⟨rfl, hb⟩; have HC5 := Lib.hid (HB3.out.trans (hb.mono HB3.out.size)); have HA5 := Lib.hid (HA3.out.on hb); have HP5 := Lib.hid (HQ1.out.below hb HQ1.out.lt); have HS5 := Lib.hid (HQ2.out.below hb HQ2.out.lt); clear hb; have p0 := HP5.out.cell 0; have p1 := HP5.out.cell 1; have p2 := HP5.out.cell 2; obtain ⟨q0, q1, q2, q3, q4⟩ := HS5.out.five; obtain ⟨b9, o9, he9, _, hc9⟩ := HA5.out _ _ HX.out; cases he9) | (go_at_call 71; (with_reducible refine (refIndex_all R.out gr _).mono ?_); rw [X6.out, Y6.out]; rintro e w6 ⟨rfl, hb⟩; have HC6 := Lib.hid (HC5.out.trans (hb.mono HC5.out.size)); have HA6 := Lib.hid (HA5.out.on hb); have HP6 := Lib.hid (HP5.out.below hb HP5.out.lt); have HS6 := Lib.hid (HS5.out.below hb HS5.out.lt); clear hb; have p0 := HP6.out.cell 0; have p1 := HP6.out.cell 1; have p2 := HP6.out.cell 2; obtain ⟨q0, q1, q2, q3, q4⟩ := HS6.out.five; obtain ⟨b9, o9, he9, _, hc9⟩ := HA6.out _ _ HX.out; cases he9))
                            go_ret
                            exact ⟨by rw [E1.out, E2.out, E3.out]; simp [fitsB, I1.out, I2.out, H3.out, h8b], HC6.out⟩
                          · have h8b : (le == gr) = false := by simpa using a8
                            clear a8
                            go_wp2_with (first | (go_at_call 71; (with_reducible refine (refIndex_all R.out le _).mono ?_); rw [X5.out, Y5.out]; rintro e w5 ⟨rfl, hb⟩; have HC5 := Lib.hid (HB3.out.trans (hb.mono HB3.out.size)); have HA5 := Lib.hid (HA3.out.on hb); have HP5 := Lib.hid (HQ1.out.below hb HQ1.out.lt); have HS5 := Lib.hid (HQ2.out.below hb HQ2.out.lt); clear hb; have p0 := HP5.out.cell 0; have p1 := HP5.out.cell 1; have p2 := HP5.out.cell 2; obtain ⟨q0, q1, q2, q3, q4⟩ := HS5.out.five; obtain ⟨b9, o9, he9, _, hc9⟩ := HA5.out _ _ HX.out; cases he9) | (go_at_call 71; (with_reducible refine (refIndex_all R.out gr _).mono ?_); rw [X6.out, Y6.out]; rintro e w6 ⟨rfl, hb⟩; have HC6 := Lib.hid (HC5.out.trans (hb.mono HC5.out.size)); have HA6 := Lib.hid (HA5.out.on hb); have HP6 := Lib.hid (HP5.out.below hb HP5.out.lt); have HS6 := Lib.hid (HS5.out.below hb HS5.out.lt); clear hb; have p0 := HP6.out.cell 0; have p1 := HP6.out.cell 1; have p2 := HP6.out.cell 2; obtain ⟨q0, q1, q2, q3, q4⟩ := HS6.out.five; obtain ⟨b9, o9, he9, _, hc9⟩ := HA6.out _ _ HX.out; cases he9))
                            go_ret
                            exact ⟨by rw [E1.out, E2.out, E3.out]; simp [fitsB, I1.out, I2.out, H3.out, h8b], HC6.out⟩
                        · have h7b : (x != 1) = true := by simpa using a7
                          have h7c : (x == 1) = false := by simpa using a7
                          have H7 := Lib.hid h7c
                          clear a7 h7c
                          go_wp2_with (first | (go_at_call 71; (with_reducible refine (refIndex_all R.out le _).mono ?_); rw [X5.out, Y5.out]; rintro e w5 ⟨rfl, hb⟩; have HC5 := Lib.hid (HB3.out.trans (hb.mono HB3.out.size)); have HA5 := Lib.hid (HA3.out.on hb); have HP5 := Lib.hid (HQ1.out.below hb HQ1.out.lt); have HS5 := Lib.hid (HQ2.out.below hb HQ2.out.lt); clear hb; have p0 := HP5.out.cell 0; have p1 := HP5.out.cell 1; have p2 := HP5.out.cell 2; obtain ⟨q0, q1, q2, q3, q4⟩ := HS5.out.five; obtain ⟨b9, o9, he9, _, hc9⟩ := HA5.out _ _ HX.out; cases he9) | (go_at_call 71; (with_reducible refine (refIndex_all R.out gr _).mono ?_); rw [X6.out, Y6.out]; rintro e w6 ⟨rfl, hb⟩; have HC6 := Lib.hid (HC5.out.trans (hb.mono HC5.out.size)); have HA6 := Lib.hid (HA5.out.on hb); have HP6 := Lib.hid (HP5.out.below hb HP5.out.lt); have HS6 := Lib.hid (HS5.out.below hb HS5.out.lt); clear hb; have p0 := HP6.out.cell 0; have p1 := HP6.out.cell 1; have p2 := HP6.out.cell 2; obtain ⟨q0, q1, q2, q3, q4⟩ := HS6.out.five; obtain ⟨b9, o9, he9, _, hc9⟩ := HA6.out _ _ HX.out; cases he9))
                          go_ret
                          exact ⟨by rw [E1.out, E2.out, E3.out]; simp [fitsB, I1.out, I2.out, H3.out, H7.out], HC6.out⟩
                      · have h6b : ((f : Int) != (g : Int)) = true := by rw [bne_iff_ne]; omega
                        have h6c : (f == g) = false := beq_eq_false_iff_ne.2 a6
                        have H6 := Lib.hid h6c
                        clear a6 h6c
                        go_wp2_with (first | (go_at_call 71; (with_reducible refine (refIndex_all R.out le _).mono ?_); rw [X5.out, Y5.out]; rintro e w5 ⟨rfl, hb⟩; have HC5 := Lib.hid (HB3.out.trans (hb.mono HB3.out.size)); have HA5 := Lib.hid (HA3.out.on hb); have HP5 := Lib.hid (HQ1.out.below hb HQ1.out.lt); have HS5 := Lib.hid (HQ2.out.below hb HQ2.out.lt); clear hb; have p0 := HP5.out.cell 0; have p1 := HP5.out.cell 1; have p2 := HP5.out.cell 2; obtain ⟨q0, q1, q2, q3, q4⟩ := HS5.out.five; obtain ⟨b9, o9, he9, _, hc9⟩ := HA5.out _ _ HX.out; cases he9) | (go_at_call 71; (with_reducible refine (refIndex_all R.out gr _).mono ?_); rw [X6.out, Y6.out]; rintro e w6 ⟨rfl, hb⟩; have HC6 := Lib.hid (HC5.out.trans (hb.mono HC5.out.size)); have HA6 := Lib.hid (HA5.out.on hb); have HP6 := Lib.hid (HP5.out.below hb HP5.out.lt); have HS6 := Lib.hid (HS5.out.below hb HS5.out.lt); clear hb; have p0 := HP6.out.cell 0; have p1 := HP6.out.cell 1; have p2 := HP6.out.cell 2; obtain ⟨q0, q1, q2, q3, q4⟩ := HS6.out.five; obtain ⟨b9, o9, he9, _, hc9⟩ := HA6.out _ _ HX.out; cases he9))
                        go_ret
                        exact ⟨by rw [E1.out, E2.out, E3.out]; simp [fitsB, I1.out, I2.out, H3.out, H6.out], HC6.out⟩
                  · have b4 : ((v : Int) != (g : Int)) = true := by rw [bne_iff_ne]; omega
                    have i2 : isInB l h d gr g = false := by simp [isInB, hv, a4]
                    have I1 := Lib.hid i1
                    have I2 := Lib.hid i2
                    clear i1 i2 a1 a2 a3 a4 hu hv
                    go_wp2_with (first | (go_at_call 71; (with_reducible refine (refIndex_all R.out le _).mono ?_); rw [X5.out, Y5.out]; rintro e w5 ⟨rfl, hb⟩; have HC5 := Lib.hid (HB3.out.trans (hb.mono HB3.out.size)); have HA5 := Lib.hid (HA3.out.on hb); have HP5 := Lib.hid (HQ1.out.below hb HQ1.out.lt); have HS5 := Lib.hid (HQ2.out.below hb HQ2.out.lt); clear hb; have p0 := HP5.out.cell 0; have p1 := HP5.out.cell 1; have p2 := HP5.out.cell 2; obtain ⟨q0, q1, q2, q3, q4⟩ := HS5.out.five; obtain ⟨b9, o9, he9, _, hc9⟩ := HA5.out _ _ HX.out; cases he9) | (go_at_call 71; (with_reducible refine (refIndex_all R.out gr _).mono ?_); rw [X6.out, Y6.out]; rintro e w6 ⟨rfl, hb⟩; have HC6 := Lib.hid (HC5.out.trans (hb.mono HC5.out.size)); have HA6 := Lib.hid (HA5.out.on hb); have HP6 := Lib.hid (HP5.out.below hb HP5.out.lt); have HS6 := Lib.hid (HS5.out.below hb HS5.out.lt); clear hb; have p0 := HP6.out.cell 0; have p1 := HP6.out.cell 1; have p2 := HP6.out.cell 2; obtain ⟨q0, q1, q2, q3, q4⟩ := HS6.out.five; obtain ⟨b9, o9, he9, _, hc9⟩ := HA6.out _ _ HX.out; cases he9))
                    go_ret
                    exact ⟨by rw [E1.out, E2.out, E3.out]; simp [fitsB, I1.out, I2.out], HC6.out⟩
                · have b3 : ((u : Int) != (f : Int)) = true := by rw [bne_iff_ne]; omega
                  have i1 : isInB l h d le f = false := by simp [isInB, hu, a3]
                  have I1 := Lib.hid i1
                  clear i1 a1 a2 a3 hu hv
                  go_wp2_with (first | (go_at_call 71; (with_reducible refine (refIndex_all R.out le _).mono ?_); rw [X5.out, Y5.out]; rintro e w5 ⟨rfl, hb⟩; have HC5 := Lib.hid (HB3.out.trans (hb.mono HB3.out.size)); have HA5 := Lib.hid (HA3.out.on hb); have HP5 := Lib.hid (HQ1.out.below hb HQ1.out.lt); have HS5 := Lib.hid (HQ2.out.below hb HQ2.out.lt); clear hb; have p0 := HP5.out.cell 0; have p1 := HP5.out.cell 1; have p2 := HP5.out.cell 2; obtain ⟨q0, q1, q2, q3, q4⟩ := HS5.out.five; obtain ⟨b9, o9, he9, _, hc9⟩ := HA5.out _ _ HX.out; cases he9) | (go_at_call 71; (with_reducible refine (refIndex_all R.out gr _).mono ?_); rw [X6.out, Y6.out]; rintro e w6 ⟨rfl, hb⟩; have HC6 := Lib.hid (HC5.out.trans (hb.mono HC5.out.size)); have HA6 := Lib.hid (HA5.out.on hb); have HP6 := Lib.hid (HP5.out.below hb HP5.out.lt); have HS6 := Lib.hid (HS5.out.below hb HS5.out.lt); clear hb; have p0 := HP6.out.cell 0; have p1 := HP6.out.cell 1; have p2 := HP6.out.cell 2; obtain ⟨q0, q1, q2, q3, q4⟩ := HS6.out.five; obtain ⟨b9, o9, he9, _, hc9⟩ := HA6.out _ _ HX.out; cases he9))
                  go_ret
                  exact ⟨by rw [E1.out, E2.out, E3.out]; simp [fitsB, I1.out], HC6.out⟩
              · have X6 := Lib.hid (show (if 0 ≤ gr ∧ gr ≤ h then (ixH l d gr : Int) else 0) = 0 from if_neg a2)
                have Y6 := Lib.hid (show (if 0 ≤ gr ∧ gr ≤ h then (0 : Int) else 2) = 2 from if_neg a2)
                have i2 : isInB l h d gr g = false := by
                  unfold isInB
                  by_cases a : 0 ≤ gr
                  · have : ¬ gr ≤ h := fun x => a2 ⟨a, x⟩
                    simp [this]
                  · simp [a]
                have I2 := Lib.hid i2
                clear i2 a1 a2 hu hv
                go_wp2_with (first | (go_at_call 71; (with_reducible refine (refIndex_all R.out le _).mono ?_); rw [X5.out, Y5.out]; rintro e w5 ⟨rfl, hb⟩; have HC5 := Lib.hid (HB3.out.trans (hb.mono HB3.out.size)); have HA5 := Lib.hid (HA3.out.on hb); have HP5 := Lib.hid (HQ1.out.below hb HQ1.out.lt); have HS5 := Lib.hid (HQ2.out.below hb HQ2.out.lt); clear hb; have p0 := HP5.out.cell 0; have p1 := HP5.out.cell 1; have p2 := HP5.out.cell 2; obtain ⟨q0, q1, q2, q3, q4⟩ := HS5.out.five; obtain ⟨b9, o9, he9, _, hc9⟩ := HA5.out _ _ HX.out; cases he9) | (go_at_call 71; (with_reducible refine (refIndex_all R.out gr _).mono ?_); rw [X6.out, Y6.out]; rintro e w6 ⟨rfl, hb⟩; have HC6 := Lib.hid (HC5.out.trans (hb.mono HC5.out.size)); have HA6 := Lib.hid (HA5.out.on hb); have HP6 := Lib.hid (HP5.out.below hb HP5.out.lt); have HS6 := Lib.hid (HS5.out.below hb HS5.out.lt); clear hb; have p0 := HP6.out.cell 0; have p1 := HP6.out.cell 1; have p2 := HP6.out.cell 2; obtain ⟨q0, q1, q2, q3, q4⟩ := HS6.out.five; obtain ⟨b9, o9, he9, _, hc9⟩ := HA6.out _ _ HX.out; cases he9))
                go_ret
                exact ⟨by rw [E1.out, E2.out, E3.out]; simp [fitsB, I2.out], HC6.out⟩
            · have X5 := Lib.hid (show (if 0 ≤ le ∧ le ≤ h then (ixH l d le : Int) else 0) = 0 from if_neg a1)
              have Y5 := Lib.hid (show (if 0 ≤ le ∧ le ≤ h then (0 : Int) else 2) = 2 from if_neg a1)
              obtain ⟨p6, X6⟩ : ∃ p6, Hid ((if 0 ≤ gr ∧ gr ≤ h then (ixH l d gr : Int) else 0) = p6) := ⟨_, Lib.hid rfl⟩
              obtain ⟨y6, Y6⟩ : ∃ y6, Hid ((if 0 ≤ gr ∧ gr ≤ h then (0 : Int) else 2) = y6) := ⟨_, Lib.hid rfl⟩
              have i1 : isInB l h d le f = false := by
                unfold isInB
                by_cases a : 0 ≤ le
                · have : ¬ le ≤ h := fun x => a1 ⟨a, x⟩
                  simp [this]
                · simp [a]
              have I1 := Lib.hid i1
              clear i1 a1 hu hv
              go_wp2_with (first | (go_at_call 71; (with_reducible refine (refIndex_all R.out le _).mono ?_); rw [X5.out, Y5.out]; rintro e w5 ⟨rfl, hb⟩; have HC5 := Lib.hid (HB3.out.trans (hb.mono HB3.out.size)); have HA5 := Lib.hid (HA3.out.on hb); have HP5 := Lib.hid (HQ1.out.below hb HQ1.out.lt); have HS5 := Lib.hid (HQ2.out.below hb HQ2.out.lt); clear hb; have p0 := HP5.out.cell 0; have p1 := HP5.out.cell 1; have p2 := HP5.out.cell 2; obtain ⟨q0, q1, q2, q3, q4⟩ := HS5.out.five; obtain ⟨b9, o9, he9, _, hc9⟩ := HA5.out _ _ HX.out; cases he9) | (go_at_call 71; (with_reducible refine (refIndex_all R.out gr _).mono ?_); rw [X6.out, Y6.out]; rintro e w6 ⟨rfl, hb⟩; have HC6 := Lib.hid (HC5.out.trans (hb.mono HC5.out.size)); have HA6 := Lib.hid (HA5.out.on hb); have HP6 := Lib.hid (HP5.out.below hb HP5.out.lt); have HS6 := Lib.hid (HS5.out.below hb HS5.out.lt); clear hb; have p0 := HP6.out.cell 0; have p1 := HP6.out.cell 1; have p2 := HP6.out.cell 2; obtain ⟨q0, q1, q2, q3, q4⟩ := HS6.out.five; obtain ⟨b9, o9, he9, _, hc9⟩ := HA6.out _ _ HX.out; cases he9))
              go_ret
              exact ⟨by rw [E1.out, E2.out, E3.out]; simp [fitsB, I1.out], HC6.out⟩
        · have h2b : (sumU xs != xc) = true := by simpa using fun a => h2 a.symm
          have E2 : Hid ((xc == sumU xs) = false) := Lib.hid (by simpa using h2)
          clear h2 hf hg
          go_wp2
          go_ret
          exact ⟨by rw [E1.out, E2.out]; rfl, HB3.out⟩
  · have h1b : ((xs.length : Int) != ((Sc.cnt l h d : Nat) : Int)) = true := by rw [bne_iff_ne]; omega
    have E1 : Hid (decide (xs.length = Sc.cnt l h d) = false) := Lib.hid (decide_eq_false h1)
    clear h1
    go_enter Try.func48, Try.ntmps48
    go_wp2_with (go_at_call 40; (with_reducible refine (HC.out _).mono ?_); rintro e w3 ⟨rfl, hb⟩; have HB3 := Lib.hid (HB0.out.trans (hb.mono HB0.out.size)); have HQ2 := Lib.hid (HR2.out.below hb HR2.out.lt); clear hb; obtain ⟨q0, q1, q2, q3, q4⟩ := HQ2.out.five)
    go_ret
    exact ⟨by rw [E1.out]; rfl, HB3.out⟩
end
end Go.Proofs.Ytiifhkfkcljoiaa
