/- THE WALKS of the document's own Regs and Same; the law 'SnapNil'. -/
import Derived.Test.YtdadgppbpomdoaaPd
namespace Go.Proofs.Ytdadgppbpomdoaa
open Go Go.RowKit

/-- from A on lie registers whose words are xs -/
def LiesR (w : World) (A : Option Addr) (xs : List Int) : Prop := ∀ j x, xs[j]? = some x → ∃ g, A = some ⟨g, 0, none⟩ ∧ w.cell? ⟨g, j * 2, none⟩ = some (.int .u32 (numW x)) ∧ w.cell? ⟨g, j * 2 + 1, none⟩ = some (.int .u32 (valW x))
theorem LiesR.nil (w : World) (A : Option Addr) : LiesR w A [] := fun j x hx => by simp at hx
theorem Row.liesR {w : World} {g : Nat} {t : TypeId} {xs : List Int} (h : Row w g t (regCells xs)) : LiesR w (some ⟨g, 0, none⟩) xs := fun _ _ hx => ⟨g, rfl, (h.cell _).trans (regCells_num hx), (h.cell _).trans (regCells_val hx)⟩
theorem LiesR.drewN {w : World} {A : Option Addr} {xs : List Int} (h : LiesR w A xs) (n : Nat) : LiesR (w.drewN n) A xs := h
theorem own_liesR {w : World} {base n c : Nat} {e : TypeId} {A : Option Addr} {xs : List Int} (h : w.ownsRow base e 2 (.slice A n c) n (regCells xs)) : LiesR w A xs := fun j x hx => by
  have hn : xs.length = n := by have := h.1; simp at this; omega
  have hl := lt_of_get hx
  obtain ⟨g, c', hv, _⟩ := own_some h (by omega)
  cases hv
  have h0 := h.cells (g := g) rfl _ _ (regCells_num hx)
  have h1 := h.cells (g := g) rfl _ _ (regCells_val hx)
  rw [add_zero_] at h0 h1
  exact ⟨g, rfl, h0, h1⟩
theorem word_ext {x y : Int} (h0 : numW x = numW y) (h1 : valW x = valW y) : x = y := by unfold numW at h0; unfold valW at h1; omega

set_option maxRecDepth 100000
theorem dregs_len {w : World} {A B : Option Addr} {n m c c' : Nat} (h : n ≠ m) :
    Calls Try.prog 19 #[.slice A n c, .slice B m c'] w fun e w' => e = .returned (.bool false) ∧ ∃ m, w' = w.drewN m := by
  have h' : ¬ (n : Int) = (m : Int) := by omega
  have hn : ((n : Int) == (m : Int)) = false := by simpa using h'
  have hn' : ((n : Int) != (m : Int)) = true := by simpa using h'
  clear h h'
  go_enter Try.func19, Try.ntmps19
  go_wp2
  go_ret
  exact ⟨rfl, 0, rfl⟩
theorem dregs_same {w : World} {A B : Option Addr} {c c' n : Nat} {xs ys : List Int} (h : LiesR w A xs) (h' : LiesR w B ys) (hx : xs.length = n) (hy : ys.length = n) (hl : n ≤ 1000000) :
    Calls Try.prog 19 #[.slice A n c, .slice B n c'] w fun e w' => e = .returned (.bool (decide (xs = ys))) ∧ ∃ m, w' = w.drewN m := by
  have H := Lib.hid h
  have H' := Lib.hid h'
  have HX := Lib.hid hx
  have HY := Lib.hid hy
  have hnn : ((n : Int) != (n : Int)) = false := by simp
  clear h h' hx hy
  go_enter Try.func19, Try.ntmps19
  go_wp2
  go_loopw [5] (fun i wr => ∃ k : Nat, k ≤ n ∧ i = .int .i64 k ∧ xs.take k = ys.take k ∧ ∃ m, wr = w.drewN m) (fun i _ => n - (intOf i).toNat)
  case atStart => exact ⟨0, Nat.zero_le _, rfl, rfl, 0, rfl⟩
  case round =>
    obtain ⟨k, hk, rfl, ht, m, rfl⟩ := hrel
    have HT := Lib.hid ht
    clear ht
    by_cases hlt : k < n
    · obtain ⟨x, hx⟩ : ∃ x, xs[k]? = some x := ⟨xs[k]'(by rw [HX.out]; exact hlt), List.getElem?_eq_getElem _⟩
      obtain ⟨y, hy⟩ : ∃ y, ys[k]? = some y := ⟨ys[k]'(by rw [HY.out]; exact hlt), List.getElem?_eq_getElem _⟩
      obtain ⟨g, rfl, hc0, hc1⟩ := H.out k x hx
      obtain ⟨g', rfl, hd0, hd1⟩ := H'.out k y hy
      have hlt' : (k : Int) < (n : Int) := by omega
      have HXk := Lib.hid hx
      have HYk := Lib.hid hy
      clear hx hy
      by_cases hxy : x = y
      · have hxx : (numW x == numW y) = true := by simp [hxy]
        have hxv : (valW x == valW y) = true := by simp [hxy]
        have HE := Lib.hid hxy
        clear hxy
        go_wp2
        go_quiet (fail)
        go_wp2
        go_roundw
        case rel => exact ⟨k + 1, by omega, by go_num, by rw [List.take_add_one, List.take_add_one, HXk.out, HYk.out, HT.out, HE.out], _, rfl⟩
        case measure => simp [intOf]; omega
      · have hne : ¬ xs = ys := fun e => hxy (by have h1 := HXk.out; have h2 := HYk.out; rw [e, h2] at h1; exact (Option.some.inj h1).symm)
        have HN := Lib.hid hne
        by_cases h0 : numW x = numW y
        · have hv : ¬ valW x = valW y := fun e => hxy (word_ext h0 e)
          have hxx : (numW x == numW y) = true := by simp [h0]
          have hxv : (valW x == valW y) = false := by simpa using hv
          clear hxy h0 hv hne
          go_wp2
          go_quiet (fail)
          go_wp2
          go_ret
          exact ⟨by simp [HN.out], _, World.drewN_drewN ..⟩
        · have hxx : (numW x == numW y) = false := by simpa using h0
          clear hxy h0 hne
          go_wp2
          go_quiet (fail)
          go_wp2
          go_ret
          exact ⟨by simp [HN.out], _, World.drewN_drewN ..⟩
    · obtain rfl : k = n := by omega
      go_wp2
      go_ret
      have he : xs = ys := by have := HT.out; rwa [List.take_of_length_le (by rw [HX.out]; omega), List.take_of_length_le (by rw [HY.out]; omega)] at this
      exact ⟨by simp [he], m, rfl⟩
theorem dregs_any {w : World} {A B : Option Addr} {c c' n m : Nat} {xs ys : List Int} (h : LiesR w A xs) (h' : LiesR w B ys) (hx : xs.length = n) (hy : ys.length = m) (hl : n ≤ 1000000) :
    Calls Try.prog 19 #[.slice A n c, .slice B m c'] w fun e w' => e = .returned (.bool (decide (xs = ys))) ∧ ∃ m, w' = w.drewN m := by
  by_cases e : n = m
  · subst e; exact dregs_same h h' hx hy hl
  · rw [decide_eq_false (fun e' => e (by rw [← hx, ← hy, e']))]
    exact dregs_len e
/-- two views that are the same -/
theorem dsame_yes {w : World} {A B : Option Addr} {c c' n : Nat} {b : Bool} {q : Int} {xs : List Int} (h : LiesR w A xs) (h' : LiesR w B xs) (hx : xs.length = n) (hl : n ≤ 1000000) (hA : ∀ g, A = some ⟨g, 0, none⟩ → g < w.heap.size) (hB : ∀ g, B = some ⟨g, 0, none⟩ → g < w.heap.size) :
    Calls Try.prog 17 #[.agg #[.slice A n c, .bool b, .int .i64 q], .agg #[.slice B n c', .bool b, .int .i64 q]] w fun e w' => e = .returned (.bool true) ∧ Below w.heap.size w w' := by
  have hq : (q == q) = true := by simp
  have hb : (b == b) = true := by simp
  have HX := Lib.hid hx
  have HD : Hid (decide (xs = xs) = true) := Lib.hid (by simp)
  have lift : ∀ {C : Option Addr} {ys : List Int} {o o' : Obj}, LiesR w C ys → (∀ g, C = some ⟨g, 0, none⟩ → g < w.heap.size) → LiesR ((w.alloc o).alloc o') C ys := fun {C ys o o'} hl hC j x hj => by
    obtain ⟨g, e, h0, h1⟩ := hl j x hj
    have hg := hC g e
    have hbw : Below w.heap.size w ((w.alloc o).alloc o') := ((Below.refl _ _).alloc (Nat.le_refl _) _).alloc (by simp) _
    exact ⟨g, e, (hbw.cell (p := ⟨g, j * 2, none⟩) hg).trans h0, (hbw.cell (p := ⟨g, j * 2 + 1, none⟩) hg).trans h1⟩
  have H := Lib.hid (fun (o o' : Obj) => lift (o := o) (o' := o') h hA)
  have H' := Lib.hid (fun (o o' : Obj) => lift (o := o) (o' := o') h' hB)
  clear h h' hx hA hB lift
  go_enter Try.func17, Try.ntmps17
  go_wp2_with (go_at_call 19; refine (dregs_any (H.out _ _) (H'.out _ _) HX.out HX.out hl).mono ?_; rw [HD.out]; rintro e w1 ⟨rfl, m, rfl⟩)
  go_ret
  exact ⟨rfl, Below.draws (((Below.refl _ _).alloc (Nat.le_refl _) _).alloc (by simp) _) m⟩
theorem dsame_zero (w : World) : Calls Try.prog 17 #[noView, noView] w fun e w' => e = .returned (.bool true) ∧ Below w.heap.size w w' :=
  dsame_yes (LiesR.nil _ _) (LiesR.nil _ _) rfl (by omega) (fun _ h => by cases h) (fun _ h => by cases h)

set_option maxHeartbeats 3200000 in
theorem snil_any (k r v t : Int) (w : World) : Calls Try.prog 5 #[.agg #[.int .u8 k, .int .i64 r, .int .u32 v, .int .i64 t]] w fun e w' => e = .returned (.bool true) ∧ Below w.heap.size w w' := by
  go_enter Try.func5, Try.ntmps5
  go_wp2_with (first
    | (go_at_call 22; refine rput_nil.mono ?_; unfold noReg; rintro e w1 ⟨rfl, hb⟩; have HB1 := Lib.hid hb; have hr := (Row.new w _ [.int .u8 k, .int .i64 r, .int .u32 v, .int .i64 t]).below hb (by simp); obtain ⟨c0, c1, c2, c3⟩ := hr.four; have lt1 := hr.lt; have HR1 := Lib.hid hr; clear hb hr)
    | (go_at_call 23; refine rget_nil.mono ?_; unfold noReg; rintro e w2 ⟨rfl, hb⟩; have HB2 := Lib.hid hb; have hr := (HR1.out.alloc _).below hb (by have := HR1.out.lt; simp; omega); obtain ⟨d0, d1, d2, d3⟩ := hr.four; have lt2 := hr.lt; have HR2 := Lib.hid hr; have HA2 := Lib.hid ((Row.new w1 _ [.int .u32 0, .int .u32 0]).below hb (by simp)); clear hb hr)
    | (go_at_call 24; refine rscan_nil.mono ?_; rintro e w3 ⟨rfl, hb⟩; have HB3 := Lib.hid hb; have hr := (HR2.out.alloc _).below hb (by have := HR2.out.lt; simp; omega); obtain ⟨e0, e1, e2, e3⟩ := hr.four; have HA3 := Lib.hid ((HA2.out.alloc _).below hb (by have := HA2.out.lt; simp; omega)); have HG3 := Lib.hid ((Row.new w2 _ [.int .u32 0, .int .u32 0]).below hb (by simp)); clear hb hr)
    | (go_at_call 12; refine (pstart_nil _ _ _ _ _).mono ?_; rintro e w4 ⟨rfl, hb⟩; have HB4 := Lib.hid hb; have HA4 := Lib.hid (HA3.out.below hb HA3.out.lt); have HG4 := Lib.hid (HG3.out.below hb HG3.out.lt); clear hb)
    | (go_at_call 14; refine (pstep_nil _).mono ?_; unfold noDidV; rintro e w5 ⟨rfl, hb⟩; have HB5 := Lib.hid hb; have HA5 := Lib.hid (HA4.out.below hb HA4.out.lt); have HG5 := Lib.hid (HG4.out.below hb HG4.out.lt); clear hb)
    | (go_at_call 11; refine (rbegins_any _).mono ?_; rintro e w6 ⟨rfl, hb⟩; have HB6 := Lib.hid hb; have HA6 := Lib.hid ((HA5.out.alloc _).below hb (by have := HA5.out.lt; simp; omega)); have HG6 := Lib.hid ((HG5.out.alloc _).below hb (by have := HG5.out.lt; simp; omega)); have HD6 := Lib.hid ((Row.new w5 _ [.int .u8 0, .int .i64 0, .int .u64 0, .int .u64 0, .bool false]).below hb (by simp)); have f0 := HA6.out.cell 0; have f1 := HA6.out.cell 1; have g0 := HG6.out.cell 0; have g1 := HG6.out.cell 1; obtain ⟨h0, h1, h2, h3, h4⟩ := HD6.out.five; clear hb)
    | (go_at_call 20; refine (rall_nil _).mono ?_; rintro e wx ⟨rfl, rfl⟩)
    | (go_at_call 16; refine (pdone_nil _).mono ?_; rintro e wx ⟨rfl, rfl⟩)
    | (go_at_call 18; refine (panswer_nil _).mono ?_; unfold noView; rintro e w7 ⟨rfl, hb⟩; have HB7 := Lib.hid hb; clear hb)
    | (go_at_call 17; refine (dsame_zero _).mono ?_; rintro e w8 ⟨rfl, hb⟩; have HB8 := Lib.hid hb; clear hb))
  go_ret
  exact ⟨rfl, (((((((((((Part.refl [] w).alloc _).on HB1.out).alloc _).on HB2.out).alloc _).on HB3.out).on HB4.out).on HB5.out).alloc _ |>.on HB6.out).on HB7.out |>.on HB8.out).end_⟩
end Go.Proofs.Ytdadgppbpomdoaa
