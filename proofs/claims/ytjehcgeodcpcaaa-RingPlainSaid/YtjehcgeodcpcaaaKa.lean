/- THE WALKS of package ring: words, New, cell, oldest, check, Done, Answer, end. -/
import Derived.Test.YtjehcgeodcpcaaaCf
import Derived.Laws.Bits64b
import Derived.StillTailTactics
namespace Go.Proofs.Ytjehcgeodcpcaaa
open Go Go.RowKit

theorem Part.on {S : List Nat} {w w1 w2 : World} (h : Part S w w1) (hb : Below w1.heap.size w1 w2) : Part S w w2 := h.then_ (Part.of_below hb (Nat.le_refl _) S)
theorem Part.end_ {w w1 : World} (h : Part [] w w1) : Below w.heap.size w w1 := h.below (Nat.le_refl _) (by simp)
theorem Row.of_eq {w : World} {b : Nat} {t : TypeId} {l l' : List Value} (h : Row w b t l) (e : l = l') : Row w b t l' := e ▸ h
theorem Words.drewN {w : World} {bk bw : Nat} {ws : List Int} (h : Words w bk bw ws) (n : Nat) : Words (w.drewN n) bk bw ws := ⟨h.head, h.row, h.few, h.ok⟩
theorem Row.drewN {w : World} {b : Nat} {t : TypeId} {l : List Value} (h : Row w b t l) (n : Nat) : Row (w.drewN n) b t l := h

theorem and32 {x : Int} (h : U64 x) : bits .and .u64 x 4294967295 = x % 4294967296 := by
  obtain ⟨n, rfl⟩ := Int.eq_ofNat_of_zero_le h.1
  have hn : n < 18446744073709551616 := by have := h.2; omega
  have h1 := bits_and_u64_nat n 4294967295 hn (by omega)
  have e : n &&& 4294967295 = n % 4294967296 := by
    have := Nat.and_two_pow_sub_one_eq_mod n 32
    simpa using this
  rw [e] at h1
  exact h1
theorem or32 {q c : Int} (q0 : 0 ≤ q) (q1 : q ≤ 4294967295) (c0 : 0 ≤ c) (c1 : c ≤ 4294967295) : bits .or .u64 (q * 4294967296) c = q * 4294967296 + c := by
  obtain ⟨a, rfl⟩ := Int.eq_ofNat_of_zero_le q0
  obtain ⟨b, rfl⟩ := Int.eq_ofNat_of_zero_le c0
  have h1 := bits_or_u64_nat (a * 4294967296) b (by omega) (by omega)
  have e := Nat.two_pow_add_eq_or_of_lt (i := 32) (b := b) (by omega) a
  have e2 : a * 4294967296 ||| b = a * 4294967296 + b := by rw [Nat.mul_comm] ; exact e.symm
  rw [e2] at h1
  simpa using h1
/-- what was counted in a tick, by a cell's word -/
def cntN (x q : Int) : Int := if x / 4294967296 = q then x % 4294967296 else 0
def wordN (q c : Int) : Int := q * 4294967296 + c
theorem cntN_lo {x : Int} (_h : U64 x) (q : Int) : 0 ≤ cntN x q ∧ cntN x q ≤ 4294967295 := by unfold cntN; split <;> omega
theorem wordN_u64 {q c : Int} (q0 : 0 ≤ q) (q1 : q ≤ 4294967295) (c0 : 0 ≤ c) (c1 : c ≤ 4294967295) : U64 (wordN q c) := by unfold wordN U64; omega

/-- a ring.Ring at block br -/
structure Rng (w : World) (br bk bw : Nat) (wd : Int) (ws : List Int) : Prop where
  head : Row w br 73 [.pointer (some ⟨bk, 0, none⟩), .int .i64 wd]
  words : Words w bk bw ws
  pos : 0 < ws.length
  top : ws.length ≤ 4096
  wid : 1 ≤ wd ∧ wd ≤ 1152921504606846976
section
variable {w w' : World} {br bk bw : Nat} {wd : Int} {ws ws' : List Int}
theorem Rng.part {S : List Nat} (h : Rng w br bk bw wd ws) (hp : Part S w w') (h0 : br ∉ S) (h1 : bk ∉ S) (h2 : bw ∉ S) : Rng w' br bk bw wd ws := ⟨h.head.part hp h0, h.words.part hp h1 h2, h.pos, h.top, h.wid⟩
theorem Rng.on (h : Rng w br bk bw wd ws) (hb : Below w.heap.size w w') : Rng w' br bk bw wd ws := h.part (Part.of_below hb (Nat.le_refl _) []) (by simp) (by simp) (by simp)
theorem Rng.alloc (h : Rng w br bk bw wd ws) (o : Obj) : Rng (w.alloc o) br bk bw wd ws := ⟨h.head.alloc o, h.words.alloc o, h.pos, h.top, h.wid⟩
theorem Rng.drew (h : Rng w br bk bw wd ws) : Rng w.drew br bk bw wd ws := ⟨h.head, h.words.drew, h.pos, h.top, h.wid⟩
theorem Rng.drewN (h : Rng w br bk bw wd ws) (n : Nat) : Rng (w.drewN n) br bk bw wd ws := ⟨h.head, h.words.drewN n, h.pos, h.top, h.wid⟩
theorem Rng.ne (h : Rng w br bk bw wd ws) : br ≠ bw := h.head.ne h.words.row (by decide)
theorem Rng.next {S : List Nat} (h : Rng w br bk bw wd ws) (hP : Part S w w') (hW : Words w' bk bw ws') (h0 : br ∉ S) (hl : ws'.length = ws.length) : Rng w' br bk bw wd ws' := ⟨h.head.part hP h0, hW, by rw [hl]; exact h.pos, by rw [hl]; exact h.top, h.wid⟩
end
set_option maxRecDepth 100000
theorem rtick_any {x : Int} (h : U64 x) (w : World) : Calls Try.prog 36 #[.int .u64 x] w fun e w' => e = .returned (.int .i64 (x / 4294967296)) ∧ w = w' := by
  have h0 := h.1
  have h1 := h.2
  clear h
  go_enter Try.func36, Try.ntmps36
  go_wp2
  go_ret
  exact ⟨rfl, rfl⟩
theorem rcount_any {x : Int} (h : U64 x) (q : Int) (w : World) : Calls Try.prog 33 #[.int .u64 x, .int .i64 q] w fun e w' => e = .returned (.int .u64 (cntN x q)) ∧ w = w' := by
  have HA := Lib.hid (and32 h)
  have HU := Lib.hid h
  by_cases hq : x / 4294967296 = q
  · have HC : Hid (cntN x q = x % 4294967296) := Lib.hid (if_pos hq)
    have hd : (x / 4294967296 != q) = false := by simp [hq]
    clear hq h
    go_enter Try.func33, Try.ntmps33
    go_wp2_with (go_at_call 36; refine (rtick_any HU.out _).mono ?_; rintro e wx ⟨rfl, rfl⟩)
    go_ret
    exact ⟨by rw [HC.out, ← HA.out]; rfl, rfl⟩
  · have HC : Hid (cntN x q = 0) := Lib.hid (if_neg hq)
    have hd : (x / 4294967296 != q) = true := by simpa using hq
    clear hq h
    go_enter Try.func33, Try.ntmps33
    go_wp2_with (go_at_call 36; refine (rtick_any HU.out _).mono ?_; rintro e wx ⟨rfl, rfl⟩)
    go_ret
    exact ⟨by rw [HC.out]; rfl, rfl⟩
theorem rword_any {q c : Int} (q0 : 0 ≤ q) (q1 : q ≤ 4294967295) (c0 : 0 ≤ c) (c1 : c ≤ 4294967295) (w : World) : Calls Try.prog 38 #[.int .i64 q, .int .u64 c] w fun e w' => e = .returned (.int .u64 (wordN q c)) ∧ w = w' := by
  have HO := Lib.hid (or32 q0 q1 c0 c1)
  go_enter Try.func38, Try.ntmps38
  go_wp2
  go_ret
  exact ⟨by unfold wordN; rw [← HO.out]; rfl, rfl⟩
theorem rcell_any {w : World} {br bk bw : Nat} {wd : Int} {ws : List Int} (h : Rng w br bk bw wd ws) (t : Nat) (ht : t ≤ 4294967295) : Calls Try.prog 42 #[.pointer (some ⟨br, 0, none⟩), .int .i64 (t : Int)] w fun e w' => e = .returned (.int .i64 ((t % ws.length : Nat) : Int)) ∧ w = w' := by
  have hc := h.head.cell 0
  have hp := h.pos
  have htp := h.top
  have H := Lib.hid h.words
  have hn : ¬ ws = [] := by rintro rfl; simp at hp
  have hn' : ¬ (ws.length : Int) = 0 := by omega
  clear h
  go_enter Try.func42, Try.ntmps42
  go_wp2_with (go_at_call 40; refine (len_any H.out).mono ?_; rintro e wx ⟨rfl, rfl⟩)
  go_ret
  refine ⟨?_, rfl⟩
  show Ending.returned (Value.int .i64 ((t : Int) % (ws.length : Int))) = _
  rw [Int.natCast_emod]
theorem rcell_at {w : World} {br bk bw : Nat} {wd : Int} {ws : List Int} (h : Rng w br bk bw wd ws) {t c : Nat} (ht : t ≤ 4294967295) (hc : t % ws.length = c) : Calls Try.prog 42 #[.pointer (some ⟨br, 0, none⟩), .int .i64 (t : Int)] w fun e w' => e = .returned (.int .i64 (c : Int)) ∧ w = w' := hc ▸ rcell_any h t ht
theorem roldest_any {w : World} {br bk bw : Nat} {wd : Int} {ws : List Int} (h : Rng w br bk bw wd ws) (t : Nat) (ht : t ≤ 4294967295) : Calls Try.prog 28 #[.pointer (some ⟨br, 0, none⟩), .int .i64 (t : Int)] w fun e w' => e = .returned (.int .i64 ((t + 1 - ws.length : Nat) : Int)) ∧ w = w' := by
  have hc := h.head.cell 0
  have hp := h.pos
  have htp := h.top
  have H := Lib.hid h.words
  clear h
  go_enter Try.func28, Try.ntmps28
  go_wp2_with (go_at_call 40; refine (len_any H.out).mono ?_; rintro e wx ⟨rfl, rfl⟩)
  all_goals
    go_ret
    refine ⟨?_, rfl⟩
    apply congrArg Ending.returned
    show Value.int .i64 _ = Value.int .i64 _
    apply congrArg (Value.int .i64)
    omega
/-- what New leaves -/
def FreshR (w : World) (k : Nat) (wd : Int) (e : Ending) (w' : World) : Prop :=
  ∃ br bk bw, e = .returned (.tuple #[.pointer (some ⟨br, 0, none⟩), .int .i64 0]) ∧ w.heap.size ≤ br ∧ w.heap.size ≤ bk ∧ w.heap.size ≤ bw ∧ Rng w' br bk bw wd (List.replicate k 0) ∧ Below w.heap.size w w'
theorem rnew_no {k wd : Int} (h : k < 1 ∨ 4096 < k ∨ wd < 1 ∨ 1152921504606846976 < wd) (w : World) : Calls Try.prog 8 #[.int .i64 k, .int .i64 wd] w fun e w' => e = .returned (.tuple #[.pointer none, .int .i64 2]) ∧ w = w' := by
  by_cases a : k < 1
  · have d : decide (k < 1) = true := by simpa using a
    clear h a
    go_enter Try.func8, Try.ntmps8
    go_wp2
    go_ret2
    exact ⟨rfl, rfl⟩
  have d1 : decide (k < 1) = false := by simpa using a
  by_cases b : 4096 < k
  · have d : decide (4096 < k) = true := by simpa using b
    clear h a b
    go_enter Try.func8, Try.ntmps8
    go_wp2
    go_ret2
    exact ⟨rfl, rfl⟩
  have d2 : decide (4096 < k) = false := by simpa using b
  by_cases c : wd < 1
  · have d : decide (wd < 1) = true := by simpa using c
    clear h a b c
    go_enter Try.func8, Try.ntmps8
    go_wp2
    go_ret2
    exact ⟨rfl, rfl⟩
  have d3 : decide (wd < 1) = false := by simpa using c
  have d4 : decide (1152921504606846976 < wd) = true := by simp; omega
  clear h a b c
  go_enter Try.func8, Try.ntmps8
  go_wp2
  go_ret2
  exact ⟨rfl, rfl⟩
theorem rnew_yes (w : World) {k : Nat} {wd : Int} (h1 : 1 ≤ k) (h2 : k ≤ 4096) (h3 : 1 ≤ wd) (h4 : wd ≤ 1152921504606846976) : Calls Try.prog 8 #[.int .i64 (k : Int), .int .i64 wd] w (FreshR w k wd) := by
  have d1 : decide ((k : Int) < 1) = false := by simp; omega
  have d2 : decide ((4096 : Int) < (k : Int)) = false := by simp; omega
  have d3 : decide (wd < 1) = false := by simpa using h3
  have d4 : decide (1152921504606846976 < wd) = false := by simpa using h4
  have H3 := Lib.hid h3
  have H4 := Lib.hid h4
  clear h3 h4
  go_enter Try.func8, Try.ntmps8
  go_wp2_with (go_at_call 25; refine (new_yes _ (n := k) (by omega)).mono ?_; rintro e w1 ⟨bk, bw, rfl, hk, hw, hW, hb⟩; have HK := Lib.hid hk; have HW := Lib.hid hw; have HS := Lib.hid hW; have HB := Lib.hid hb; clear hk hw hW hb)
  go_ret2
  have hs := HB.out.size
  have hl : (List.replicate k (0:Int)).length = k := List.length_replicate
  exact ⟨w1.heap.size, bk, bw, rfl, hs, HK.out, HW.out, ⟨Row.new _ _ _, HS.out.alloc _, by rw [hl]; exact h1, by rw [hl]; exact h2, H3.out, H4.out⟩, HB.out.alloc hs _⟩
end Go.Proofs.Ytjehcgeodcpcaaa
