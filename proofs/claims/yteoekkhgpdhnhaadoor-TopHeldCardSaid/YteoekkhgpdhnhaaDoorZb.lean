/- HOW THE LAWS THROUGH THE LAYERS BEGIN. -/
import Derived.Test.YteoekkhgpdhnhaaDoorZa
namespace Go.Proofs.YteoekkhgpdhnhaaDoor
open Go Go.RowKit
set_option maxRecDepth 100000
theorem word_load_any {w : World} {bk bw : Nat} {ws : List Int} (h : Words w bk bw ws) {i : Nat} {x : Int} (hi : ws[i]? = some x) :
    Calls Tryd.prog 32 #[.pointer (some ⟨bk, 0, none⟩), .int .i64 (i : Int)] w fun e w' => e = .returned (.int .u64 x) ∧ w = w' := by
  have hc := h.hc
  have hw := h.word hi
  have hl := lt_of_get hi
  have hn := h.few
  go_enter Tryd.func32, Tryd.ntmps32
  go_wp2_with (first
    | (go_at_call 57; refine (has_yes h hl).mono ?_; rintro e w' ⟨rfl, rfl⟩)
    | (go_at_call 59; refine (word_load hw).mono ?_; rintro e w' ⟨rfl, rfl⟩))
  go_ret
  exact ⟨rfl, rfl⟩
theorem word_add_any {w : World} {bk bw : Nat} {ws : List Int} (h : Words w bk bw ws) {i : Nat} {x y : Int} (hi : ws[i]? = some x) :
    Calls Tryd.prog 31 #[.pointer (some ⟨bk, 0, none⟩), .int .i64 (i : Int), .int .u64 y] w fun e w' => e = .returned (.int .u64 (IntKind.u64.wrap (x + y))) ∧ w.setCell ⟨bw, i, none⟩ (.int .u64 (IntKind.u64.wrap (x + y))) = w' := by
  have hc := h.hc
  have hw := h.word hi
  have hz := h.row.free i
  have hl := lt_of_get hi
  have hn := h.few
  go_enter Tryd.func31, Tryd.ntmps31
  go_wp2_with (first
    | (go_at_call 57; refine (has_yes h hl).mono ?_; rintro e w' ⟨rfl, rfl⟩)
    | (go_at_call 58; refine (word_add hw hz).mono ?_; rintro e w' ⟨rfl, rfl⟩))
  go_ret
  exact ⟨rfl, rfl⟩
theorem add_top {w : World} {bk bw : Nat} (h : Words w bk bw [0]) :
    Calls Tryd.prog 31 #[.pointer (some ⟨bk, 0, none⟩), .int .i64 0, .int .u64 5] w fun e w' => e = .returned (.int .u64 5) ∧ w.setCell ⟨bw, 0, none⟩ (.int .u64 5) = w' := by
  have := word_add_any h (i := 0) (x := 0) (y := 5) rfl
  rwa [show IntKind.u64.wrap (0 + 5) = 5 by decide] at this
theorem load_top {w : World} {bk bw : Nat} (h : Words w bk bw [5]) :
    Calls Tryd.prog 32 #[.pointer (some ⟨bk, 0, none⟩), .int .i64 0] w fun e w' => e = .returned (.int .u64 5) ∧ w = w' := word_load_any h (i := 0) (x := 5) rfl
theorem begins_top (w : World) (hE : UnitsIn w) : Calls Tryd.prog 6 #[] w fun e w' => e = .returned (.bool true) ∧ Below w.heap.size w w' := by
  have HE := Lib.hid hE
  clear hE
  go_enter Tryd.func6, Tryd.ntmps6
  go_wp2_with (first
    | (go_at_call 29; refine (new_yes _ (n := 1) (by omega)).mono ?_; rintro e w1 ⟨bk, bw, rfl, hk, hw, hW, hb⟩; have HW := Lib.hid hW; have HB1 := Lib.hid hb; have HLO := Lib.hid hw; clear hW hb hk hw)
    | (go_at_call 30; refine (print_top _ (HE.out.on HB1.out)).mono ?_; rintro e w2 ⟨rfl, hb⟩; have HW2 := Lib.hid (HW.out.part (Part.of_below hb (Nat.le_refl _) []) (by simp) (by simp)); have HB2 := Lib.hid (HB1.out.trans (hb.mono HB1.out.size)); clear hb)
    | (go_at_call 31; refine (add_top HW2.out).mono ?_; rintro e w3 ⟨rfl, rfl⟩; have HW3 := Lib.hid (show Words _ bk bw [5] from HW2.out.set 0 (x := 5) (by unfold U64; omega)))
    | (go_at_call 32; refine (load_top HW3.out).mono ?_; rintro e w4 ⟨rfl, rfl⟩))
  go_ret
  exact ⟨rfl, HB2.out.setCell (by simpa using HLO.out) _⟩
end Go.Proofs.YteoekkhgpdhnhaaDoor
