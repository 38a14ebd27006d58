/- THE WALKS of package hist: the document's Copy and Index. -/
import Derived.Test.YtiifhkfkcljoiaaIp
import Derived.Test.YtiifhkfkcljoiaaWk
import Derived.Deep.RegionLaw
import Derived.Deep.AppendLies
import Derived.Laws.MakeOwn
namespace Go.Proofs.Ytiifhkfkcljoiaa
open Go Go.RowKit
set_option maxRecDepth 100000
set_option maxHeartbeats 1600000
theorem Below.draws {B : Nat} {w w' : World} (h : Below B w w') (n : Nat) : Below B w (w'.drewN n) := ⟨h.os, h.tape, h.output, h.size, h.block⟩
theorem copy_any {w : World} {A : Option Addr} {c : Nat} {xs : List Int} (hA : Ext .u64 w A xs) (hl : xs.length ≤ 17592186044416) :
    Calls Try.prog 45 #[.slice A xs.length c] w fun e w' => ∃ A' c', e = .returned (.slice A' xs.length c') ∧ w'.ownsRow w.heap.size 38 1 (.slice A' xs.length c') xs.length (u64s xs) ∧ Below w.heap.size w w' := by
  obtain ⟨i0, hi, hz0, hz1, hz2⟩ := info_parts info29
  have H := Lib.hid hA
  clear hA
  go_enter Try.func45, Try.ntmps45
  go_wp2
  go_loopw [3, 4] (fun v i wr => ∃ k : Nat, k ≤ xs.length ∧ i = .int .i64 k ∧ wr.ownsRow w.heap.size 38 1 v k (u64s (xs.take k)) ∧ Below w.heap.size w wr) (fun _ i _ => xs.length - (intOf i).toNat)
  case atStart => exact ⟨0, Nat.zero_le _, rfl, World.ownsRow_nil _ _ _ _, Below.refl _ _⟩
  case round =>
    obtain ⟨k, hk, rfl, hown, hb⟩ := hrel
    have HO := Lib.hid hown
    have HB := Lib.hid hb
    clear hown hb
    by_cases hlt : k < xs.length
    · obtain ⟨x, hx⟩ : ∃ x, xs[k]? = some x := ⟨xs[k], List.getElem?_eq_getElem hlt⟩
      obtain ⟨b, o, rfl, _, hc⟩ := (H.out.on HB.out) k x hx
      have HT : Hid (u64s (xs.take k) ++ [.int .u64 x] = u64s (xs.take (k + 1))) := Lib.hid (by rw [List.take_add_one, hx]; simp [u64s])
      have hsz := HB.out.size
      have H3 : Hid (k + 1 ≤ maxLen) := Lib.hid (by unfold maxLen; omega)
      have H4 : Hid ((k + 1) * 8 ≤ 140737488355328) := Lib.hid (by omega)
      have H5 : Hid (w.heap.size ≤ (wr.alloc (.cells #[.int .u64 x] 38)).heap.size) := Lib.hid (by simp; omega)
      have hlt' : (k : Int) < (xs.length : Int) := by omega
      clear hx
      go_wp2_with (at_builtin; refine wpList_append_own _ rfl _ _ 42 rfl w.heap.size 38 i0 (.int .u64 0) 1 8 Try.underlying42 hi hz0 hz1 hz2 rfl (by decide) _ _ _ rfl (HO.out.alloc _) ⟨wr.heap.size, 0, none⟩ 1 1 [.int .u64 x] rfl rfl (new_cells _ _ _) (by intro u hu; simp at hu; subst hu; rfl) H3.out H4.out H5.out ?_; intro v' w1 hown1 hgr1 _; have HO1 := Lib.hid hown1; have HG1 := Lib.hid hgr1; clear hown1 hgr1)
      go_roundw
      case rel => exact ⟨k + 1, by omega, by go_num, by have := HO1.out; rwa [HT.out] at this, (HB.out.alloc hsz _).grown HG1.out (by simp; omega) (own_from HO.out)⟩
      case measure => simp [intOf]; omega
    · obtain rfl : k = xs.length := by omega
      obtain ⟨a, cc, rfl⟩ := own_form HO.out
      go_wp2
      go_ret
      exact ⟨a, cc, rfl, by have := HO.out; rwa [List.take_length] at this, HB.out⟩
section
variable {l h d : Int}
theorem refIndex_all (r : Sc.rightB l h d = true) (v : Int) (w : World) : Calls Try.prog 71 #[.agg #[.int .i64 l, .int .i64 h, .int .i64 d], .int .i64 v] w fun e w' => e = .returned (.tuple #[.int .i64 (if 0 ≤ v ∧ v ≤ h then (ixH l d v : Int) else 0), .int .i64 (if 0 ≤ v ∧ v ≤ h then 0 else 2)]) ∧ Below w.heap.size w w' := by
  by_cases h0 : 0 ≤ v
  · by_cases h1 : v ≤ h
    · rw [if_pos ⟨h0, h1⟩, if_pos ⟨h0, h1⟩]
      exact Sc.refIndex_yes r h0 h1 w
    · rw [if_neg (fun a => h1 a.2), if_neg (fun a => h1 a.2)]
      exact Sc.refIndex_out2 r h0 (by omega) w
  · rw [if_neg (fun a => h0 a.1), if_neg (fun a => h0 a.1)]
    exact Sc.refIndex_out1 r (by omega) w
end
end Go.Proofs.Ytiifhkfkcljoiaa
