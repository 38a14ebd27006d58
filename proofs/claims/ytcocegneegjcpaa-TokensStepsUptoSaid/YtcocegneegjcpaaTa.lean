/- THE WALKS of package tokens: sized, moment, limit, spent, New, Word. -/
import Derived.Test.YtcocegneegjcpaaCf
import Derived.StillTailTactics
import Derived.WalkLawsBesides
import Derived.WalkSpells
namespace Go.Proofs.Ytcocegneegjcpaa
open Go Go.RowKit

theorem Part.on {S : List Nat} {w w1 w2 : World} (h : Part S w w1) (hb : Below w1.heap.size w1 w2) : Part S w w2 := h.then_ (Part.of_below hb (Nat.le_refl _) S)
theorem Part.end_ {w w1 : World} (h : Part [] w w1) : Below w.heap.size w w1 := h.below (Nat.le_refl _) (by simp)
theorem Row.drewN {w : World} {b : Nat} {t : TypeId} {l : List Value} (h : Row w b t l) (n : Nat) : Row (w.drewN n) b t l := h
theorem Row.of_eq {w : World} {b : Nat} {t : TypeId} {l l' : List Value} (h : Row w b t l) (e : l = l') : Row w b t l' := e ▸ h

/-- may a bucket be so -/
def fitsB (ev bu : Int) : Bool := decide (1 ≤ ev ∧ ev ≤ 1099511627776 ∧ 1 ≤ bu ∧ bu ≤ 1048576)
def momB (t : Int) : Bool := decide (0 ≤ t ∧ t ≤ 2305843009213693952)

theorem tsized_any (ev bu : Int) (w : World) : Calls Try.prog 72 #[.int .i64 ev, .int .i64 bu] w fun e w' => e = .returned (.bool (fitsB ev bu)) ∧ w = w' := by
  by_cases h1 : 1 ≤ ev
  · by_cases h2 : ev ≤ 1099511627776
    · by_cases h3 : 1 ≤ bu
      · by_cases h4 : bu ≤ 1048576
        · go_enter Try.func72, Try.ntmps72
          go_wp2
          go_ret
          exact ⟨by simp [fitsB, h1, h2, h3, h4], rfl⟩
        · have hd : decide (bu ≤ 1048576) = false := by simpa using h4
          go_enter Try.func72, Try.ntmps72
          go_wp2
          go_ret
          exact ⟨by simp [fitsB]; omega, rfl⟩
      · have hd : decide (1 ≤ bu) = false := by simpa using h3
        go_enter Try.func72, Try.ntmps72
        go_wp2
        go_ret
        exact ⟨by simp [fitsB]; omega, rfl⟩
    · have hd : decide (ev ≤ 1099511627776) = false := by simpa using h2
      go_enter Try.func72, Try.ntmps72
      go_wp2
      go_ret
      exact ⟨by simp [fitsB]; omega, rfl⟩
  · have hd : decide (1 ≤ ev) = false := by simpa using h1
    go_enter Try.func72, Try.ntmps72
    go_wp2
    go_ret
    exact ⟨by simp [fitsB]; omega, rfl⟩
theorem tmoment_any (t : Int) (w : World) : Calls Try.prog 91 #[.int .i64 t] w fun e w' => e = .returned (.bool (momB t)) ∧ w = w' := by
  by_cases h1 : 0 ≤ t
  · by_cases h2 : t ≤ 2305843009213693952
    · go_enter Try.func91, Try.ntmps91
      go_wp2
      go_ret
      exact ⟨by simp [momB, h1, h2], rfl⟩
    · have hd : decide (t ≤ 2305843009213693952) = false := by simpa using h2
      go_enter Try.func91, Try.ntmps91
      go_wp2
      go_ret
      exact ⟨by simp [momB]; omega, rfl⟩
  · have hd : decide (0 ≤ t) = false := by simpa using h1
    go_enter Try.func91, Try.ntmps91
    go_wp2
    go_ret
    exact ⟨by simp [momB]; omega, rfl⟩

/-- a tokens.Bucket at block bt, that has the word T -/
structure Buck (w : World) (bt bk bw : Nat) (ev bu T : Int) : Prop where
  head : Row w bt 133 [.pointer (some ⟨bk, 0, none⟩), .int .i64 ev, .int .i64 bu]
  words : Words w bk bw [T]
  fits : fitsB ev bu = true
  lo : 0 ≤ T
  hi : T ≤ 3458764513820540928
section
variable {w w' : World} {bt bk bw : Nat} {ev bu T : Int}
theorem Buck.cells (h : Buck w bt bk bw ev bu T) : w.cell? ⟨bt, 0, none⟩ = some (.pointer (some ⟨bk, 0, none⟩)) ∧ w.cell? ⟨bt, 1, none⟩ = some (.int .i64 ev) ∧ w.cell? ⟨bt, 2, none⟩ = some (.int .i64 bu) := ⟨h.head.cell 0, h.head.cell 1, h.head.cell 2⟩
theorem fits_bounds {ev bu : Int} (h : fitsB ev bu = true) : 1 ≤ ev ∧ ev ≤ 1099511627776 ∧ 1 ≤ bu ∧ bu ≤ 1048576 := by simpa [fitsB] using h
theorem mul_bounds {n ev : Int} (h0 : 0 ≤ n) (h1 : n ≤ 1048576) (e0 : 1 ≤ ev) (e1 : ev ≤ 1099511627776) : 0 ≤ n * ev ∧ n * ev ≤ 1152921504606846976 := by
  constructor
  · exact Int.mul_nonneg h0 (by omega)
  · have := Int.mul_le_mul h1 e1 (by omega) (by omega)
    omega
theorem Buck.depth (h : Buck w bt bk bw ev bu T) : 0 ≤ bu * ev ∧ bu * ev ≤ 1152921504606846976 := by
  obtain ⟨a, b, c, d⟩ := fits_bounds h.fits
  exact mul_bounds (by omega) d a b
theorem Buck.ne (h : Buck w bt bk bw ev bu T) : bt ≠ bw := h.head.ne h.words.row (by decide)
theorem Buck.part {S : List Nat} (h : Buck w bt bk bw ev bu T) (hp : Part S w w') (h1 : bt ∉ S) (h2 : bk ∉ S) (h3 : bw ∉ S) : Buck w' bt bk bw ev bu T := ⟨h.head.part hp h1, h.words.part hp h2 h3, h.fits, h.lo, h.hi⟩
theorem Buck.below {B : Nat} (h : Buck w bt bk bw ev bu T) (hb : Below B w w') (h1 : bt < B) (h2 : bk < B) (h3 : bw < B) : Buck w' bt bk bw ev bu T := ⟨h.head.below hb h1, h.words.below hb h2 h3, h.fits, h.lo, h.hi⟩
theorem Buck.on (h : Buck w bt bk bw ev bu T) (hb : Below w.heap.size w w') : Buck w' bt bk bw ev bu T := h.below hb h.head.lt h.words.head.lt h.words.row.lt
theorem Buck.drew (h : Buck w bt bk bw ev bu T) : Buck w.drew bt bk bw ev bu T := ⟨h.head, h.words.drew, h.fits, h.lo, h.hi⟩
theorem Buck.drewN (h : Buck w bt bk bw ev bu T) (n : Nat) : Buck (w.drewN n) bt bk bw ev bu T := ⟨h.head, ⟨h.words.head, h.words.row, h.words.few, h.words.ok⟩, h.fits, h.lo, h.hi⟩
theorem Buck.alloc (h : Buck w bt bk bw ev bu T) (o : Obj) : Buck (w.alloc o) bt bk bw ev bu T := ⟨h.head.alloc o, h.words.alloc o, h.fits, h.lo, h.hi⟩
/-- behind what turns the word -/
theorem Buck.next {S : List Nat} {T' : Int} (h : Buck w bt bk bw ev bu T) (hp : Part S w w') (hw : Words w' bk bw [T']) (h1 : bt ∉ S) (h2 : 0 ≤ T') (h3 : T' ≤ 3458764513820540928) : Buck w' bt bk bw ev bu T' := ⟨h.head.part hp h1, hw, h.fits, h2, h3⟩
end

theorem tword_nil (w : World) : Calls Try.prog 47 #[.pointer none] w fun e w' => e = .returned (.int .u64 0) ∧ w = w' := by
  go_enter Try.func47, Try.ntmps47
  go_wp2
  go_ret
  exact ⟨rfl, rfl⟩
theorem tword_any {w : World} {bt bk bw : Nat} {ev bu T : Int} (h : Buck w bt bk bw ev bu T) :
    Calls Try.prog 47 #[.pointer (some ⟨bt, 0, none⟩)] w fun e w' => e = .returned (.int .u64 T) ∧ w = w' := by
  obtain ⟨c0, c1, c2⟩ := h.cells
  have H := Lib.hid h
  clear h
  go_enter Try.func47, Try.ntmps47
  go_wp2_with (go_at_call 70; refine (load_any H.out.words (i := 0) rfl).mono ?_; rintro e w' ⟨rfl, rfl⟩)
  go_ret
  exact ⟨rfl, rfl⟩
theorem tlimit_any {w : World} {bt bk bw : Nat} {ev bu T : Int} (h : Buck w bt bk bw ev bu T) {t : Int} (h0 : 0 ≤ t) (h1 : t ≤ 2305843009213693952) :
    Calls Try.prog 93 #[.pointer (some ⟨bt, 0, none⟩), .int .i64 t] w fun e w' => e = .returned (.int .i64 (t + bu * ev)) ∧ ∃ n, w' = w.drewN n := by
  obtain ⟨c0, c1, c2⟩ := h.cells
  obtain ⟨d0, d1⟩ := h.depth
  clear h
  go_enter Try.func93, Try.ntmps93
  go_wp2
  go_quiet (fail)
  go_wp2
  go_ret
  exact ⟨rfl, _, rfl⟩
end Go.Proofs.Ytcocegneegjcpaa
