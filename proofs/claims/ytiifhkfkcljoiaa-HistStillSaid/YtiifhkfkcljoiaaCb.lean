/- THE WALKS of package cells: Len, has, Load, Add, Swap, New, All. -/
import Derived.Test.YtiifhkfkcljoiaaCa
import Derived.OwnWalk
import Derived.Laws.MakeOwn
import Derived.LoopTactic
import Derived.Deep.LoopGhost
import Derived.BigQuiet
import Derived.Deep.QuietTactic
import Derived.Deep.RegionWith
import Derived.Outline
namespace Go.Proofs.Ytiifhkfkcljoiaa
open Go Go.RowKit

theorem row_of_full {w : World} {base : Nat} {e : TypeId} {size g n : Nat} {xs : List Value} (h : w.ownsRow base e size (.slice (some ⟨g, 0, none⟩) n n) n xs) : Row w g e xs := by
  obtain ⟨hl, h⟩ := h
  rcases h with ⟨h, _⟩ | ⟨g', cap, cur, hv, _, hh, _, _, hs, ht⟩
  · cases h
  · injection hv with h1 h2 h3
    injection h1 with h1
    injection h1 with h1
    subst h1
    subst h3
    unfold Row
    rw [hh, ← ht, List.take_of_length_le (by rw [Array.length_toList, hs]; omega)]
theorem own_of_row {w : World} {base : Nat} {e : TypeId} {size g n : Nat} {xs : List Value} (h : Row w g e xs) (hl : xs.length = n * size) (hb : base ≤ g) (hn : n ≤ maxLen) :
    w.ownsRow base e size (.slice (some ⟨g, 0, none⟩) n n) n xs :=
  ⟨hl, .inr ⟨g, n, xs.toArray, rfl, hb, h, Nat.le_refl _, hn, by simpa using hl, by simp [← hl]⟩⟩

/-- the values of words -/
def u64s (ws : List Int) : List Value := ws.map (Value.int .u64)
@[simp] theorem u64s_length (ws : List Int) : (u64s ws).length = ws.length := by simp [u64s]
theorem u64s_get (ws : List Int) (i : Nat) : (u64s ws)[i]? = ws[i]?.map (Value.int .u64) := by simp [u64s]
theorem u64s_set (ws : List Int) (i : Nat) (x : Int) : (u64s ws).set i (.int .u64 x) = u64s (ws.set i x) := by simp [u64s, List.map_set]

/-- a cells.Cells at block bk, whose words lie in block bw -/
structure Words (w : World) (bk bw : Nat) (ws : List Int) : Prop where
  head : Row w bk 101 [.slice (some ⟨bw, 0, none⟩) ws.length ws.length]
  row : Row w bw 107 (u64s ws)
  few : ws.length ≤ 65536
  ok : ∀ x, x ∈ ws → U64 x

section
variable {w w' : World} {bk bw : Nat} {ws : List Int}
theorem Words.hc (h : Words w bk bw ws) : w.cell? ⟨bk, 0, none⟩ = some (.slice (some ⟨bw, 0, none⟩) ws.length ws.length) := h.head.cell 0
theorem Words.word (h : Words w bk bw ws) {i : Nat} {x : Int} (hi : ws[i]? = some x) : w.cell? ⟨bw, i, none⟩ = some (.int .u64 x) := by rw [h.row.cell, u64s_get, hi]; rfl
theorem Words.ne (h : Words w bk bw ws) : bk ≠ bw := h.head.ne h.row (by decide)
theorem Words.set (h : Words w bk bw ws) (i : Nat) {x : Int} (hx : U64 x) : Words (w.setCell ⟨bw, i, none⟩ (.int .u64 x)) bk bw (ws.set i x) :=
  ⟨by rw [List.length_set]; exact h.head.far (p := ⟨bw, i, none⟩) h.ne.symm _, by rw [← u64s_set]; exact h.row.set i _, by rw [List.length_set]; exact h.few, fun y hy => by
    rcases List.mem_or_eq_of_mem_set hy with hy | rfl
    · exact h.ok y hy
    · exact hx⟩
theorem Words.part {S : List Nat} (h : Words w bk bw ws) (hp : Part S w w') (h1 : bk ∉ S) (h2 : bw ∉ S) : Words w' bk bw ws := ⟨h.head.part hp h1, h.row.part hp h2, h.few, h.ok⟩
theorem Words.alloc (h : Words w bk bw ws) (o : Obj) : Words (w.alloc o) bk bw ws := ⟨h.head.alloc o, h.row.alloc o, h.few, h.ok⟩
theorem Words.drew (h : Words w bk bw ws) : Words w.drew bk bw ws := ⟨h.head, h.row, h.few, h.ok⟩
end

theorem len_any {w : World} {bk bw : Nat} {ws : List Int} (h : Words w bk bw ws) :
    Calls Try.prog 79 #[.pointer (some ⟨bk, 0, none⟩)] w fun e w' => e = .returned (.int .i64 (ws.length : Int)) ∧ w = w' := by
  have hc := h.hc
  clear h
  go_enter Try.func79, Try.ntmps79
  go_wp2
  go_ret
  exact ⟨rfl, rfl⟩
theorem len_nil (w : World) : Calls Try.prog 79 #[.pointer none] w fun e w' => e = .returned (.int .i64 0) ∧ w = w' := by
  go_enter Try.func79, Try.ntmps79
  go_wp2
  go_ret
  exact ⟨rfl, rfl⟩

theorem has_yes {w : World} {bk bw : Nat} {ws : List Int} (h : Words w bk bw ws) {i : Nat} (hi : i < ws.length) :
    Calls Try.prog 53 #[.pointer (some ⟨bk, 0, none⟩), .int .i64 (i : Int)] w fun e w' => e = .returned (.bool true) ∧ w = w' := by
  go_enter Try.func53, Try.ntmps53
  go_wp2_with (go_at_call 79; refine (len_any h).mono ?_; rintro e w' ⟨rfl, rfl⟩)
  go_ret
  exact ⟨rfl, rfl⟩
theorem has_low {w : World} {p : Option Addr} {i : Int} (hi : i < 0) :
    Calls Try.prog 53 #[.pointer p, .int .i64 i] w fun e w' => e = .returned (.bool false) ∧ w = w' := by
  have h0 : decide (0 ≤ i) = false := by simp; omega
  go_enter Try.func53, Try.ntmps53
  go_wp2
  go_ret
  exact ⟨rfl, rfl⟩
theorem has_high {w : World} {bk bw : Nat} {ws : List Int} (h : Words w bk bw ws) {i : Int} (h0 : 0 ≤ i) (hi : (ws.length : Int) ≤ i) :
    Calls Try.prog 53 #[.pointer (some ⟨bk, 0, none⟩), .int .i64 i] w fun e w' => e = .returned (.bool false) ∧ w = w' := by
  have hf : decide (i < (ws.length : Int)) = false := by simp; omega
  go_enter Try.func53, Try.ntmps53
  go_wp2_with (go_at_call 79; refine (len_any h).mono ?_; rintro e w' ⟨rfl, rfl⟩)
  go_ret
  exact ⟨rfl, rfl⟩

theorem Words.u64 {w : World} {bk bw : Nat} {ws : List Int} (h : Words w bk bw ws) {i : Nat} {x : Int} (hi : ws[i]? = some x) : U64 x := h.ok x (List.mem_of_getElem? hi)
theorem lt_of_get {α : Type} {l : List α} {i : Nat} {x : α} (h : l[i]? = some x) : i < l.length := (List.getElem?_eq_some_iff.1 h).1

theorem info137 : (Try.prog.info? 107).map (fun i => (i.zero, i.size, i.bytes)) = some (some (.agg #[.int .u64 0]), 1, 8) := by kernel_rfl

/-- what New leaves: cells of so many noughts -/
def Fresh (w : World) (n : Nat) (e : Ending) (w' : World) : Prop :=
  ∃ bk bw, e = .returned (.tuple #[.pointer (some ⟨bk, 0, none⟩), .int .i64 0]) ∧ w.heap.size ≤ bk ∧ w.heap.size ≤ bw ∧ Words w' bk bw (List.replicate n 0) ∧ Below w.heap.size w w'
theorem new_no {w : World} {n : Int} (h : n < 0 ∨ 65536 < n) :
    Calls Try.prog 36 #[.int .i64 n] w fun e w' => e = .returned (.tuple #[.pointer none, .int .i64 2]) ∧ w = w' := by
  rcases h with h | h
  · go_enter Try.func36, Try.ntmps36
    go_wp2
    go_ret2
    exact ⟨rfl, rfl⟩
  · have h' : decide (n < 0) = false := by simp; omega
    have h'' : decide (65536 < n) = true := by simp; omega
    go_enter Try.func36, Try.ntmps36
    go_wp2
    go_ret2
    exact ⟨rfl, rfl⟩
theorem cells_noughts (n : Nat) : (madeCells (Value.agg #[.int .u64 0]).cells (n * 1)).toList = u64s (List.replicate n 0) := by
  apply List.ext_getElem?
  intro i
  rw [u64s_get]
  simp only [madeCells, Value.cells, List.size_toArray, List.length_cons, List.length_nil, Nat.zero_add, Nat.mod_one, Nat.mul_one]
  by_cases h : i < n
  · simp [h]
  · simp [h]
set_option maxRecDepth 100000 in
theorem new_yes (w : World) {n : Nat} (h : n ≤ 65536) : Calls Try.prog 36 #[.int .i64 (n : Int)] w (Fresh w n) := by
  obtain ⟨i0, hi, hz0, hz1, hz2⟩ := info_parts info137
  have h1 : decide ((65536 : Int) < (n : Int)) = false := by simp; omega
  have hb : i0.bytes * n ≤ 281474976710656 := by rw [hz2]; omega
  have hm : n ≤ maxLen := by unfold maxLen; omega
  have H := Lib.hid h
  clear h
  go_enter Try.func36, Try.ntmps36
  go_wp2_with (at_make; refine wpList_make_full _ rfl _ _ 99 rfl w.heap.size 107 i0 (.agg #[.int .u64 0]) 1 Try.underlying99 hi hz0 hz1 .i64 .i64 n n n rfl rfl rfl rfl hb hm (Nat.le_refl _) ?_; intro w1 hown hgr)
  go_ret2
  have hr := row_of_full hown
  rw [cells_noughts] at hr
  exact ⟨w1.heap.size, w.heap.size, rfl, hgr.size, Nat.le_refl _, ⟨by rw [List.length_replicate]; exact Row.new _ _ _, hr.alloc _, by rw [List.length_replicate]; exact H.out, fun x hx => by rw [List.eq_of_mem_replicate hx]; exact U64.zero⟩, ((Below.refl _ _).grown hgr (Nat.le_refl _) (by simp)).alloc hgr.size _⟩
end Go.Proofs.Ytiifhkfkcljoiaa
