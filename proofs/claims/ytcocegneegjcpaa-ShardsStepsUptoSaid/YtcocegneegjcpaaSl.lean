/- AN OPERATION OF A COUNTER, IN PLAIN WORDS: what each of its steps does, of whatever kind it is; and the walks in these words. -/
import Derived.Test.YtcocegneegjcpaaSj
import Derived.Test.YtcocegneegjcpaaSk
namespace Go.Proofs.Ytcocegneegjcpaa
open Go Go.RowKit

def many (n : Nat) (k : Int) : Nat := if k = 3 ∨ k = 4 then n else 1
def cellOf (n : Nat) (k : Int) (i t : Nat) : Nat := if k = 3 ∨ k = 4 then t else i % n
def putOf (k y x : Int) : Int := if k = 1 then IntKind.u64.wrap (x + y) else if k = 4 then 0 else x
def sumOf (k y s x : Int) : Int := if k = 1 then IntKind.u64.wrap (x + y) else if k = 2 then x else IntKind.u64.wrap (s + x)
def actOf (k : Int) : Int := if k = 1 then 3 else if k = 4 then 4 else 1
def fnOf (k : Int) : FuncId := if k = 1 then 62 else if k = 2 then 63 else 64
/-- the cells of an operation of which t actions were done, which have come to s -/
def opL (bk n : Nat) (k : Int) (i : Nat) (y : Int) (t : Nat) (s : Int) : List Value := pendL bk (actOf k) ((cellOf n k i t : Nat) : Int) y (if t < many n k then fnV (fnOf k) else .nilFunc) s
def didV (n : Nat) (k : Int) (i : Nat) (y : Int) (t : Nat) (x : Int) : Value := .agg #[.int .u8 (actOf k), .int .i64 ((cellOf n k i t : Nat) : Int), .int .u64 x, .int .u64 (putOf k y x), .bool true]
/-- one of the four kinds, with the fields that it uses -/
def RightN (k : Int) (i : Nat) (y : Int) : Prop := k = 1 ∨ (k = 2 ∧ y = 0) ∨ (k = 3 ∧ i = 0 ∧ y = 0) ∨ (k = 4 ∧ i = 0 ∧ y = 0)
theorem rightB_iff {k i y : Int} : rightB k i y = true ↔ ∃ m : Nat, i = (m : Int) ∧ RightN k m y := by
  constructor
  · intro h
    simp [rightB] at h
    rcases h with (⟨rfl, h⟩ | ⟨rfl, h, rfl⟩) | ⟨h1, rfl, rfl⟩
    · exact ⟨i.toNat, by omega, .inl rfl⟩
    · exact ⟨i.toNat, by omega, .inr (.inl ⟨rfl, rfl⟩)⟩
    · rcases h1 with rfl | rfl
      · exact ⟨0, rfl, .inr (.inr (.inl ⟨rfl, rfl, rfl⟩))⟩
      · exact ⟨0, rfl, .inr (.inr (.inr ⟨rfl, rfl, rfl⟩))⟩
  · rintro ⟨m, rfl, h⟩
    rcases h with rfl | ⟨rfl, rfl⟩ | ⟨rfl, rfl, rfl⟩ | ⟨rfl, rfl, rfl⟩ <;> simp [rightB]
theorem many_pos {n : Nat} (hn : 0 < n) (k : Int) : 0 < many n k := by unfold many; split <;> omega
theorem many_le {n : Nat} (hn : 0 < n) (k : Int) : many n k ≤ n := by unfold many; split <;> omega
theorem cell_lt {n : Nat} (hn : 0 < n) {k : Int} {i t : Nat} (ht : t < many n k) : cellOf n k i t < n := by
  unfold cellOf; unfold many at ht; split
  · rwa [if_pos (by assumption)] at ht
  · exact Nat.mod_lt _ hn
theorem set_same {ws : List Int} {c : Nat} {x : Int} (h : ws[c]? = some x) : ws.set c x = ws := by
  apply List.ext_getElem?
  intro j
  rw [List.getElem?_set]
  have := lt_of_get h
  by_cases e : c = j
  · subst e; have h2 := (List.getElem?_eq_some_iff.1 h).2; simp [this, h2]
  · simp [e]

theorem start_right {w : World} {bc bk bw : Nat} {ws : List Int} (h : Shard w bc bk bw ws) {k : Int} {i : Nat} {y : Int} (hr : RightN k i y) :
    Calls Try.prog 24 #[.pointer (some ⟨bc, 0, none⟩), .agg #[.int .u8 k, .int .i64 (i : Int), .int .u64 y]] w (Begun w (opL bk ws.length k i y 0 0)) := by
  have hn := h.pos
  rcases hr with rfl | ⟨rfl, rfl⟩ | ⟨rfl, rfl, rfl⟩ | ⟨rfl, rfl, rfl⟩
  · have := start_add h (i := i) (y := y)
    simpa [opL, actOf, cellOf, many, fnOf] using this
  · have := start_read h (i := i)
    simpa [opL, actOf, cellOf, many, fnOf] using this
  · have := start_sum h
    simpa [opL, actOf, cellOf, many, fnOf, hn] using this
  · have := start_take h
    simpa [opL, actOf, cellOf, many, fnOf, hn] using this

theorem step_run {w : World} {bk bw bp : Nat} {ws : List Int} (h : Words w bk bw ws) (_hn : 0 < ws.length) {k : Int} {i : Nat} {y : Int} (hr : RightN k i y) {t : Nat} {s x : Int} (ht : t < many ws.length k) (hp : Row w bp 126 (opL bk ws.length k i y t s)) (hx : ws[cellOf ws.length k i t]? = some x) :
    Calls Try.prog 26 #[.pointer (some ⟨bp, 0, none⟩)] w
      (Stepped w bk bw bp (ws.set (cellOf ws.length k i t) (putOf k y x)) (opL bk ws.length k i y (t + 1) (sumOf k y s x)) (.tuple #[didV ws.length k i y t x, .bool (decide (many ws.length k ≤ t + 1))])) := by
  rcases hr with rfl | ⟨rfl, rfl⟩ | ⟨rfl, rfl, rfl⟩ | ⟨rfl, rfl, rfl⟩
  · have ht0 : t = 0 := by simp [many] at ht; omega
    subst ht0
    simp only [opL, actOf, cellOf, many, fnOf] at hp hx ⊢
    simp only [if_true] at hp
    have := sadd_last (c := ((i % ws.length : Nat) : Int)) h (by simpa using hp) (fun w1 h1 hp1 => fadd_any (c := i % ws.length) h1 (by simpa using hx) hp1)
    simpa [didV, actOf, cellOf, putOf, sumOf] using this
  · have ht0 : t = 0 := by simp [many] at ht; omega
    subst ht0
    simp only [opL, actOf, cellOf, many, fnOf] at hp hx ⊢
    have := sread_last (c := ((i % ws.length : Nat) : Int)) h (by simpa using hp) (fun w1 h1 hp1 => fread_any (c := i % ws.length) h1 (by simpa using hx) hp1)
    have hs := set_same (ws := ws) (c := i % ws.length) (x := x) (by simpa using hx)
    simpa [didV, actOf, cellOf, putOf, sumOf, hs] using this
  · have htn : t < ws.length := by simpa [many] using ht
    simp only [opL, actOf, cellOf, many, fnOf] at hp hx ⊢
    have hs := set_same (ws := ws) (c := t) (x := x) (by simpa using hx)
    by_cases hl : t + 1 = ws.length
    · have := sgat_last h (by simpa [htn] using hp) (fun w1 h1 hp1 => fsum_last h1 (by simpa using hx) hp1 hl)
      simpa [didV, actOf, cellOf, putOf, sumOf, hs, hl] using this
    · have hl' : t + 1 < ws.length := by omega
      have hd : ¬ ws.length ≤ t + 1 := by omega
      have := sgat_more h (by simpa [htn] using hp) (fun w1 h1 hp1 => fsum_more h1 (by simpa using hx) hp1 hl')
      simpa [didV, actOf, cellOf, putOf, sumOf, hs, hl', hd] using this
  · have htn : t < ws.length := by simpa [many] using ht
    simp only [opL, actOf, cellOf, many, fnOf] at hp hx ⊢
    by_cases hl : t + 1 = ws.length
    · have := sgat_last h (by simpa [htn] using hp) (fun w1 h1 hp1 => ftake_last h1 (by simpa using hx) hp1 hl)
      simpa [didV, actOf, cellOf, putOf, sumOf, hl] using this
    · have hl' : t + 1 < ws.length := by omega
      have hd : ¬ ws.length ≤ t + 1 := by omega
      have := sgat_more h (by simpa [htn] using hp) (fun w1 h1 hp1 => ftake_more h1 (by simpa using hx) hp1 hl')
      simpa [didV, actOf, cellOf, putOf, sumOf, hl', hd] using this

theorem step_over {w : World} {bk n bp : Nat} {k : Int} {i : Nat} {y : Int} {t : Nat} {s : Int} (ht : many n k ≤ t) (hp : Row w bp 126 (opL bk n k i y t s)) :
    Calls Try.prog 26 #[.pointer (some ⟨bp, 0, none⟩)] w fun e w' => e = .returned (.tuple #[.agg #[.int .u8 0, .int .i64 0, .int .u64 0, .int .u64 0, .bool false], .bool true]) ∧ Below w.heap.size w w' := by
  have hp' : Row w bp 126 (pendL bk (actOf k) ((cellOf n k i t : Nat) : Int) y .nilFunc s) := by
    have := hp
    simp only [opL] at this
    rwa [if_neg (by omega)] at this
  have HP := Lib.hid hp'
  clear hp hp'
  go_enter Try.func26, Try.ntmps26
  go_wp2_with (go_at_call 29; refine (sdone_yes (HP.out.alloc _)).mono ?_; rintro e wx ⟨rfl, rfl⟩)
  refine bodyPost_ret (v := .tuple #[.agg #[.int .u8 0, .int .i64 0, .int .u64 0, .int .u64 0, .bool false], .bool true]) (by simp [results, Try.results26, go_sem]) rfl ⟨rfl, ?_⟩
  repeat (first | exact Below.refl _ _ | refine Below.alloc ?_ (by simp; try omega) _ | refine Below.setCell ?_ (by simp) _)
theorem done_op {w : World} {bk n bp : Nat} {k : Int} {i : Nat} {y : Int} {t : Nat} {s : Int} (hp : Row w bp 126 (opL bk n k i y t s)) :
    Calls Try.prog 29 #[.pointer (some ⟨bp, 0, none⟩)] w fun e w' => e = .returned (.bool (decide (many n k ≤ t))) ∧ w = w' := by
  unfold opL at hp
  by_cases h : t < many n k
  · rw [if_pos h] at hp
    have := sdone_no hp
    rwa [show decide (many n k ≤ t) = false by simp; omega]
  · rw [if_neg h] at hp
    have := sdone_yes hp
    rwa [show decide (many n k ≤ t) = true by simp; omega]
theorem answer_op {w : World} {bk n bp : Nat} {k : Int} {i : Nat} {y : Int} {t : Nat} {s : Int} (hp : Row w bp 126 (opL bk n k i y t s)) :
    Calls Try.prog 30 #[.pointer (some ⟨bp, 0, none⟩)] w fun e w' => e = .returned (.int .u64 (if many n k ≤ t then s else 0)) ∧ w = w' := by
  unfold opL at hp
  by_cases h : t < many n k
  · rw [if_pos h] at hp
    have := sanswer_no hp
    rwa [if_neg (show ¬ many n k ≤ t by omega)]
  · rw [if_neg h] at hp
    have := sanswer_yes hp
    rwa [if_pos (show many n k ≤ t by omega)]
end Go.Proofs.Ytcocegneegjcpaa
