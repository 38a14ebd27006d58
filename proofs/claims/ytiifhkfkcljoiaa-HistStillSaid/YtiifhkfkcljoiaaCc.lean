/- THE WALK of package cells: All. -/
import Derived.Test.YtiifhkfkcljoiaaCb
namespace Go.Proofs.Ytiifhkfkcljoiaa
open Go Go.RowKit

theorem info29 : (Try.prog.info? 38).map (fun i => (i.zero, i.size, i.bytes)) = some (some (.int .u64 0), 1, 8) := by kernel_rfl
theorem noughts29 (n : Nat) : (madeCells (Value.int .u64 0).cells (n * 1)).toList = u64s (List.replicate n 0) := by
  apply List.ext_getElem?
  intro i
  rw [u64s_get]
  simp only [madeCells, Value.cells, Nat.mul_one]
  by_cases h : i < n
  · simp [h, Nat.mod_one]
  · simp [h]

/-- what is copied into k of n words -/
def upTo (ws : List Int) (k : Nat) : List Int := ws.take k ++ List.replicate (ws.length - k) 0
theorem upTo_zero (ws : List Int) : upTo ws 0 = List.replicate ws.length 0 := by simp [upTo]
theorem upTo_all (ws : List Int) : upTo ws ws.length = ws := by simp [upTo]
theorem upTo_length (ws : List Int) {k : Nat} (h : k ≤ ws.length) : (upTo ws k).length = ws.length := by simp [upTo]; omega
theorem upTo_set (ws : List Int) {k : Nat} {x : Int} (h : ws[k]? = some x) : (upTo ws k).set k x = upTo ws (k + 1) := by
  have hk := lt_of_get h
  have hl : (ws.take k).length = k := by simp; omega
  unfold upTo
  rw [List.take_add_one, h, List.set_append_right _ _ (by omega), hl, Nat.sub_self, show ws.length - k = (ws.length - (k + 1)) + 1 by omega, List.replicate_succ]
  simp

/-- what All leaves: a new slice of the words -/
def Copied (w : World) (ws : List Int) (e : Ending) (w' : World) : Prop :=
  ∃ b, e = .returned (.slice (some ⟨b, 0, none⟩) ws.length ws.length) ∧ w.heap.size ≤ b ∧ Row w' b 38 (u64s ws) ∧ Below w.heap.size w w'

def AllAt (w : World) (b : Nat) (ws : List Int) (k : Nat) (wr : World) : Prop := Row wr b 38 (u64s (upTo ws k)) ∧ Below w.heap.size w wr

set_option maxRecDepth 100000 in
theorem all_any {w : World} {bk bw : Nat} {ws : List Int} (h : Words w bk bw ws) :
    Calls Try.prog 44 #[.pointer (some ⟨bk, 0, none⟩)] w (Copied w ws) := by
  obtain ⟨i0, hi, hz0, hz1, hz2⟩ := info_parts info29
  have hb : i0.bytes * ws.length ≤ 281474976710656 := by rw [hz2]; have := h.few; omega
  have hm : ws.length ≤ maxLen := by have := h.few; unfold maxLen; omega
  have hn : ws.length ≤ 1000000 := by have := h.few; omega
  have hc := h.hc
  have H := Lib.hid h
  clear h
  go_enter Try.func44, Try.ntmps44
  go_wp2_with (at_make; refine wpList_make_full _ rfl _ _ 42 rfl w.heap.size 38 i0 (.int .u64 0) 1 Try.underlying42 hi hz0 hz1 .i64 .i64 ws.length ws.length ws.length rfl rfl rfl rfl hb hm (Nat.le_refl _) ?_; intro w1 hown hgr; have hr := row_of_full hown; rw [noughts29] at hr; have HA := Lib.hid (show AllAt w w.heap.size ws 0 w1 from ⟨by rw [upTo_zero]; exact hr, (Below.refl _ _).grown hgr (Nat.le_refl _) (by simp)⟩); have hc1 := ((H.out.head.grown hgr (by simp)).cell 0); clear hown hgr hr)
  go_loopw [18] (fun i wr => ∃ k : Nat, k ≤ ws.length ∧ i = .int .i64 k ∧ AllAt w w.heap.size ws k wr) (fun i _ => ws.length - (intOf i).toNat)
  case atStart => exact ⟨0, Nat.zero_le _, rfl, HA.out⟩
  case round =>
    obtain ⟨k, hk, rfl, hA⟩ := hrel
    have HW := Lib.hid (H.out.part (Part.of_below hA.2 (Nat.le_refl _) []) (by simp) (by simp))
    have HB := Lib.hid hA
    clear HA hA
    have hcr := HW.out.hc
    by_cases hlt : k < ws.length
    · obtain ⟨x, hx⟩ : ∃ x, ws[k]? = some x := ⟨ws[k], List.getElem?_eq_getElem hlt⟩
      have hw := HW.out.word hx
      have hz := HB.out.1.free k
      have hcell : wr.cell? ⟨w.heap.size, k, none⟩ = some ((u64s (upTo ws k))[k]'(by rw [u64s_length, upTo_length _ hk]; exact hlt)) := (HB.out.1.cell k).trans (List.getElem?_eq_getElem _)
      have HX := Lib.hid hx
      clear hx
      go_wp2_with (go_at_call 73; refine (word_load hw).mono ?_; rintro e w' ⟨rfl, rfl⟩)
      go_roundw
      case rel => exact ⟨k + 1, by omega, by go_num, by rw [← upTo_set ws HX.out, ← u64s_set]; exact HB.out.1.set k _, HB.out.2.setCell (Nat.le_refl _) _⟩
      case measure => simp [intOf]; omega
    · obtain rfl : k = ws.length := by omega
      go_wp2
      go_ret
      have h2 := HB.out.1
      rw [upTo_all] at h2
      exact ⟨w.heap.size, rfl, Nat.le_refl _, h2, HB.out.2⟩
end Go.Proofs.Ytiifhkfkcljoiaa
