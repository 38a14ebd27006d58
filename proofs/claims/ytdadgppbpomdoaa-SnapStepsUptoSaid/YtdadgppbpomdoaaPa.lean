/- THE WALKS of package snap: regOf, after, regsOf; slices.Equal of words. -/
import Derived.Test.YtdadgppbpomdoaaCf
import Derived.Test.YtdadgppbpomdoaaOw
import Derived.WalkLawsBesides
import Derived.WalkSpells
import Derived.Laws.StructEq
namespace Go.Proofs.Ytdadgppbpomdoaa
open Go Go.RowKit

/-- from the head of block g on lie the numbers xs -/
def Lies (w : World) (g : Nat) (xs : List Int) : Prop := ∀ j x, xs[j]? = some x → w.cell? ⟨g, j, none⟩ = some (.int .u64 x)
theorem Row.lies {w : World} {g : Nat} {t : TypeId} {xs : List Int} (h : Row w g t (u64s xs)) : Lies w g xs := fun j x hx => by rw [h.cell, u64s_get, hx]; rfl
theorem own_lies {w : World} {base g n c : Nat} {e : TypeId} {xs : List Int} (h : w.ownsRow base e 1 (.slice (some ⟨g, 0, none⟩) n c) n (u64s xs)) : Lies w g xs := fun j x hx => by
  have := h.cells (g := g) rfl j (.int .u64 x) (by rw [u64s_get, hx]; rfl)
  rwa [add_zero_] at this
theorem Lies.below {w w' : World} {g B : Nat} {xs : List Int} (h : Lies w g xs) (hb : Below B w w') (hg : g < B) : Lies w' g xs := fun j x hx => (hb.cell (p := ⟨g, j, none⟩) hg).trans (h j x hx)
theorem Lies.part {w w' : World} {g : Nat} {S : List Nat} {xs : List Int} (h : Lies w g xs) (hp : Part S w w') (hg : g < w.heap.size) (hS : g ∉ S) : Lies w' g xs :=
  fun j x hx => (World.cell?_of_block (w := w) (a := ⟨g, j, none⟩) (hp.block g hg hS)).trans (h j x hx)

/-- a word's number and value -/
def numW (x : Int) : Int := x / 4294967296
def valW (x : Int) : Int := x % 4294967296
def regV (x : Int) : Value := .agg #[.int .u32 (numW x), .int .u32 (valW x)]
def afterW (x v : Int) : Int := ((numW x + 1) % 4294967296) * 4294967296 + v
/-- a uint32 -/
def U32 (x : Int) : Prop := 0 ≤ x ∧ x < 4294967296
theorem U64.num {x : Int} (h : U64 x) : U32 (numW x) := by unfold U64 at h; unfold U32 numW; omega
theorem valW_u32 (x : Int) : U32 (valW x) := by unfold U32 valW; omega
theorem afterW_u64 {x v : Int} (hv : U32 v) : U64 (afterW x v) := by unfold U32 at hv; unfold U64 afterW; omega
theorem numW_after {x v : Int} (hv : U32 v) : numW (afterW x v) = (numW x + 1) % 4294967296 := by unfold U32 at hv; unfold afterW; generalize (numW x + 1) % 4294967296 = y; unfold numW; omega
theorem valW_after {x v : Int} (hv : U32 v) : valW (afterW x v) = v := by unfold U32 at hv; unfold afterW; generalize (numW x + 1) % 4294967296 = y; unfold valW; omega

set_option maxRecDepth 100000
theorem regof_any {x : Int} (hx : U64 x) (w : World) :
    Calls Try.prog 42 #[.int .u64 x] w fun e w' => e = .returned (regV x) ∧ Below w.heap.size w w' := by
  have hm : x / 4294967296 % 4294967296 = numW x := by have := hx.num; unfold U32 at this; unfold numW at *; omega
  go_enter Try.func42, Try.ntmps42
  go_wp2
  refine bodyPost_ret (v := regV x) (by simp [results, Try.results42, go_sem, regV, valW, hm]) rfl ⟨rfl, ?_⟩
  repeat (first | exact Below.refl _ _ | refine Below.alloc ?_ (by simp; try omega) _ | refine Below.setCell ?_ (by simp) _)
theorem bits_or32 {a b : Int} (ha : U32 a) (hb : U32 b) : bits .or .u64 (a * 4294967296) (IntKind.u64.wrap b) = a * 4294967296 + b := by
  obtain ⟨A, rfl⟩ := Int.eq_ofNat_of_zero_le ha.1
  obtain ⟨B, rfl⟩ := Int.eq_ofNat_of_zero_le hb.1
  have h1 := ha.2
  have h2 := hb.2
  have hB : B < 2 ^ 32 := by omega
  have e1 : (IntKind.u64.wrap (B : Int)) = (B : Int) := by rw [IntKind.wrap_u64]; omega
  rw [e1]
  have ho : (A * 4294967296) ||| B = A * 4294967296 + B := by
    have := Nat.shiftLeft_add_eq_or_of_lt hB A
    rw [Nat.shiftLeft_eq] at this
    exact this.symm
  have hx1 : (BitVec.ofInt 64 ((A : Int) * 4294967296)).toNat = A * 4294967296 := by
    rw [show (A : Int) * 4294967296 = ((A * 4294967296 : Nat) : Int) by omega, BitVec.ofInt_natCast, BitVec.toNat_ofNat]; exact Nat.mod_eq_of_lt (by omega)
  have hx2 : (BitVec.ofInt 64 (B : Int)).toNat = B := by
    rw [BitVec.ofInt_natCast, BitVec.toNat_ofNat]; exact Nat.mod_eq_of_lt (by omega)
  show IntKind.u64.wrap ((BitVec.ofInt 64 ((A : Int) * 4294967296) ||| BitVec.ofInt 64 (B : Int)).toNat : Int) = _
  rw [BitVec.toNat_or, hx1, hx2, ho, IntKind.wrap_u64]
  omega
theorem after_any {x v : Int} (hx : U64 x) (hv : U32 v) (w : World) :
    Calls Try.prog 40 #[.int .u64 x, .int .u32 v] w fun e w' => e = .returned (.int .u64 (afterW x v)) ∧ Below w.heap.size w w' := by
  have H := Lib.hid hx
  have HV := Lib.hid hv
  have ho : bits .or .u64 ((numW x + 1) % 4294967296 * 4294967296) (IntKind.u64.wrap v) = afterW x v := by
    rw [bits_or32 (by unfold U32; omega) hv]; rfl
  clear hx hv
  go_enter Try.func40, Try.ntmps40
  go_wp2_with (go_at_call 42; refine (regof_any H.out _).mono ?_; unfold regV; rintro e w1 ⟨rfl, hb⟩; have HB := Lib.hid hb; clear hb)
  go_ret
  exact ⟨rfl, HB.out.alloc HB.out.size _⟩

/-- the cells of registers -/
def regCells (xs : List Int) : List Value := xs.flatMap fun x => [.int .u32 (numW x), .int .u32 (valW x)]
@[simp] theorem regCells_length (xs : List Int) : (regCells xs).length = xs.length * 2 := by
  induction xs with
  | nil => rfl
  | cons x xs ih => unfold regCells at *; rw [List.flatMap_cons, List.length_append, ih]; simp; omega
theorem regCells_cons (x : Int) (xs : List Int) : regCells (x :: xs) = .int .u32 (numW x) :: .int .u32 (valW x) :: regCells xs := rfl
theorem regCells_append (xs ys : List Int) : regCells (xs ++ ys) = regCells xs ++ regCells ys := by simp [regCells]
theorem regCells_num {xs : List Int} {k : Nat} {x : Int} (h : xs[k]? = some x) : (regCells xs)[k * 2]? = some (.int .u32 (numW x)) := by
  induction xs generalizing k with
  | nil => simp at h
  | cons y ys ih =>
    cases k with
    | zero => simp at h; subst h; rfl
    | succ k => rw [regCells_cons, show (k + 1) * 2 = k * 2 + 2 by omega]; exact ih (by simpa using h)
theorem regCells_val {xs : List Int} {k : Nat} {x : Int} (h : xs[k]? = some x) : (regCells xs)[k * 2 + 1]? = some (.int .u32 (valW x)) := by
  induction xs generalizing k with
  | nil => simp at h
  | cons y ys ih =>
    cases k with
    | zero => simp at h; subst h; rfl
    | succ k => rw [regCells_cons, show (k + 1) * 2 + 1 = (k * 2 + 1) + 2 by omega]; exact ih (by simpa using h)
theorem regCells_set (xs : List Int) (k : Nat) (x : Int) : ((regCells xs).set (k * 2) (.int .u32 (numW x))).set (k * 2 + 1) (.int .u32 (valW x)) = regCells (xs.set k x) := by
  induction xs generalizing k with
  | nil => rfl
  | cons y ys ih =>
    cases k with
    | zero => rfl
    | succ k => rw [regCells_cons, List.set_cons_succ, regCells_cons, ← ih k, show (k + 1) * 2 = k * 2 + 2 by omega, show k * 2 + 2 + 1 = (k * 2 + 1) + 2 by omega]; rfl

theorem infoReg : (Try.prog.info? 60).map (fun i => (i.zero, i.size, i.bytes)) = some (some (.agg #[.int .u32 0, .int .u32 0]), 2, 8) := by kernel_rfl
theorem regs_noughts (n : Nat) : (madeCells (Value.agg #[.int .u32 0, .int .u32 0]).cells (n * 2)).toList = regCells (List.replicate n 0) := by
  apply List.ext_getElem?
  intro i
  have e0 : numW 0 = 0 := rfl
  have e1 : valW 0 = 0 := rfl
  by_cases h : i < n * 2
  · obtain ⟨k, hk⟩ : ∃ k, i = k * 2 ∨ i = k * 2 + 1 := ⟨i / 2, by omega⟩
    have hg : (List.replicate n (0 : Int))[k]? = some 0 := by rw [List.getElem?_replicate, if_pos (by omega)]
    rcases hk with rfl | rfl
    · rw [regCells_num hg, e0]
      simp [madeCells, Value.cells, h]
    · rw [regCells_val hg, e1]
      simp [madeCells, Value.cells, h]
  · rw [List.getElem?_eq_none (by rw [Array.length_toList, size_madeCells]; omega), List.getElem?_eq_none (by simp; omega)]

theorem upTo_at (xs : List Int) {k : Nat} (h : k < xs.length) : (upTo xs k)[k]? = some 0 := by
  unfold upTo
  rw [List.getElem?_append_right (by simp; omega), List.getElem?_replicate, if_pos (by simp; omega)]
/-- what regsOf leaves: a new slice of registers -/
def RegsTo (w : World) (xs : List Int) (e : Ending) (w' : World) : Prop :=
  ∃ b, e = .returned (.slice (some ⟨b, 0, none⟩) xs.length xs.length) ∧ w.heap.size ≤ b ∧ Row w' b 60 (regCells xs) ∧ Below w.heap.size w w'
def RegsAt (w : World) (b : Nat) (xs : List Int) (k : Nat) (wr : World) : Prop := Row wr b 60 (regCells (upTo xs k)) ∧ Below w.heap.size w wr
theorem regsof_any {w : World} {g c : Nat} {xs : List Int} (h : Lies w g xs) (hg : g < w.heap.size) (hx : ∀ x ∈ xs, U64 x) (hl : xs.length ≤ 65536) :
    Calls Try.prog 37 #[.slice (some ⟨g, 0, none⟩) xs.length c] w (RegsTo w xs) := by
  obtain ⟨i0, hi, hz0, hz1, hz2⟩ := info_parts infoReg
  have hb : i0.bytes * xs.length ≤ 281474976710656 := by rw [hz2]; omega
  have hm : xs.length ≤ maxLen := by unfold maxLen; omega
  have H := Lib.hid h
  have HX := Lib.hid hx
  clear h hx
  go_enter Try.func37, Try.ntmps37
  go_wp2_with (at_make; refine wpList_make_full _ rfl _ _ 41 rfl w.heap.size 60 i0 (.agg #[.int .u32 0, .int .u32 0]) 2 Try.underlying41 hi hz0 hz1 .i64 .i64 xs.length xs.length xs.length rfl rfl rfl rfl hb hm (Nat.le_refl _) ?_; intro w1 hown hgr; have hr := row_of_full hown; rw [regs_noughts] at hr; have HA := Lib.hid (show RegsAt w w.heap.size xs 0 w1 from ⟨by rw [upTo_zero]; exact hr, (Below.refl _ _).grown hgr (Nat.le_refl _) (by simp)⟩); clear hown hgr hr)
  go_loopw [11] (fun i wr => ∃ k : Nat, k ≤ xs.length ∧ i = .int .i64 k ∧ RegsAt w w.heap.size xs k wr) (fun i _ => xs.length - (intOf i).toNat)
  case atStart => exact ⟨0, Nat.zero_le _, rfl, HA.out⟩
  case round =>
    obtain ⟨k, hk, rfl, hA⟩ := hrel
    have HB := Lib.hid hA
    clear HA hA
    by_cases hlt : k < xs.length
    · obtain ⟨x, hx⟩ : ∃ x, xs[k]? = some x := ⟨xs[k], List.getElem?_eq_getElem hlt⟩
      have hc := H.out.below HB.out.2 hg k x hx
      have HX1 := Lib.hid (HX.out x (List.mem_of_getElem? hx))
      have HXk := Lib.hid hx
      have HZ : Hid ((upTo xs k)[k]? = some 0) := Lib.hid (upTo_at xs hlt)
      clear hx
      go_wp2_with (go_at_call 42; refine (regof_any HX1.out _).mono ?_; unfold regV; rintro e w1 ⟨rfl, hb1⟩; have HB1 := Lib.hid hb1; have HR1 := Lib.hid (HB.out.1.below hb1 HB.out.1.lt); have hf1 := HR1.out.free; have hlt1 := HR1.out.lt; have hc0 := (HR1.out.cell _).trans (regCells_num HZ.out); have hc1 := (HR1.out.cell _).trans (regCells_val HZ.out); clear hb1)
      go_roundw
      case rel => exact ⟨k + 1, by omega, by go_num, by rw [← upTo_set xs HXk.out, ← regCells_set]; exact (HR1.out.set _ _).set _ _, ((HB.out.2.trans (HB1.out.mono HB.out.2.size)).setCell (Nat.le_refl _) _).setCell (Nat.le_refl _) _⟩
      case measure => simp [intOf]; omega
    · obtain rfl : k = xs.length := by omega
      go_wp2
      go_ret
      have h2 := HB.out.1
      rw [upTo_all] at h2
      exact ⟨w.heap.size, rfl, Nat.le_refl _, h2, HB.out.2⟩

/-- slices.Equal of words: other lengths -/
theorem equal_len {w : World} {A B : Option Addr} {n m c c' : Nat} (h : n ≠ m) :
    Calls Try.prog 43 #[.slice A n c, .slice B m c'] w fun e w' => e = .returned (.bool false) ∧ w = w' := by
  have h' : ¬ (n : Int) = (m : Int) := by omega
  have hn : ((n : Int) == (m : Int)) = false := by simpa using h'
  have hn' : ((n : Int) != (m : Int)) = true := by simpa using h'
  clear h h'
  go_enter Try.func43, Try.ntmps43
  go_wp2
  go_ret
  exact ⟨rfl, rfl⟩
/-- slices.Equal of words of one length -/
theorem equal_any {w : World} {g g' c c' n : Nat} {xs ys : List Int} (h : Lies w g xs) (h' : Lies w g' ys) (hx : xs.length = n) (hy : ys.length = n) (hl : n ≤ 65536) :
    Calls Try.prog 43 #[.slice (some ⟨g, 0, none⟩) n c, .slice (some ⟨g', 0, none⟩) n c'] w fun e w' => e = .returned (.bool (decide (xs = ys))) ∧ ∃ m, w' = w.drewN m := by
  have H := Lib.hid h
  have H' := Lib.hid h'
  have HX := Lib.hid hx
  have HY := Lib.hid hy
  have hnn : ((n : Int) != (n : Int)) = false := by simp
  clear h h' hx hy
  go_enter Try.func43, Try.ntmps43
  go_wp2
  go_loopw [13] (fun i wr => ∃ k : Nat, k ≤ n ∧ i = .int .i64 k ∧ xs.take k = ys.take k ∧ ∃ m, wr = w.drewN m) (fun i _ => n - (intOf i).toNat)
  case atStart => exact ⟨0, Nat.zero_le _, rfl, rfl, 0, rfl⟩
  case round =>
    obtain ⟨k, hk, rfl, ht, m, rfl⟩ := hrel
    have HT := Lib.hid ht
    clear ht
    by_cases hlt : k < n
    · obtain ⟨x, hx⟩ : ∃ x, xs[k]? = some x := ⟨xs[k]'(by rw [HX.out]; exact hlt), List.getElem?_eq_getElem _⟩
      obtain ⟨y, hy⟩ : ∃ y, ys[k]? = some y := ⟨ys[k]'(by rw [HY.out]; exact hlt), List.getElem?_eq_getElem _⟩
      have hc : w.cell? ⟨g, k, none⟩ = some (.int .u64 x) := H.out k x hx
      have hc' : w.cell? ⟨g', k, none⟩ = some (.int .u64 y) := H'.out k y hy
      have hlt' : (k : Int) < (n : Int) := by omega
      have HXk := Lib.hid hx
      have HYk := Lib.hid hy
      clear hx hy
      by_cases hxy : x = y
      · have hxx : ((x : Int) != y) = false := by simp [hxy]
        have HE := Lib.hid hxy
        clear hxy
        go_wp2
        go_quiet (fail)
        go_wp2
        go_roundw
        case rel => exact ⟨k + 1, by omega, by go_num, by rw [List.take_add_one, List.take_add_one, HXk.out, HYk.out, HT.out, HE.out], _, rfl⟩
        case measure => simp [intOf]; omega
      · have hxx : ((x : Int) != y) = true := by simpa using hxy
        have HE := Lib.hid hxy
        clear hxy
        go_wp2
        go_quiet (fail)
        go_wp2
        go_ret
        have hne : ¬ xs = ys := fun e => HE.out (by have h1 := HXk.out; have h2 := HYk.out; rw [e, h2] at h1; exact (Option.some.inj h1).symm)
        exact ⟨by simp [hne], _, World.drewN_drewN ..⟩
    · obtain rfl : k = n := by omega
      go_wp2
      go_ret
      have he : xs = ys := by have := HT.out; rwa [List.take_of_length_le (by rw [HX.out]; omega), List.take_of_length_le (by rw [HY.out]; omega)] at this
      exact ⟨by simp [he], m, rfl⟩
end Go.Proofs.Ytdadgppbpomdoaa
