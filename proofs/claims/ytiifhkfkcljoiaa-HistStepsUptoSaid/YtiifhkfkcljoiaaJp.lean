/- THE WALKS of package hist: the document's Cells and Right. -/
import Derived.Test.YtiifhkfkcljoiaaJz
import Derived.Test.YtiifhkfkcljoiaaWk
import Derived.Deep.RegionLaw
import Derived.Deep.AppendLies
import Derived.Laws.MakeOwn
namespace Go.Proofs.Ytiifhkfkcljoiaa
open Go Go.RowKit
set_option maxRecDepth 100000
set_option maxHeartbeats 1600000
theorem dcells_any {l h d : Int} (r : Sc.rightB l h d = true) (w : World) : Calls Try.prog 15 #[.agg #[.int .i64 l, .int .i64 h, .int .i64 d]] w fun e w' => ∃ g c, e = .returned (.slice (some ⟨g, 0, none⟩) (startH (Sc.cnt l h d)).length c) ∧ Ext .u64 w' (some ⟨g, 0, none⟩) (startH (Sc.cnt l h d)) ∧ w.heap.size ≤ g ∧ g < w'.heap.size ∧ Below w.heap.size w w' := by
  obtain ⟨m, hm⟩ : ∃ m, Sc.cnt l h d = m := ⟨_, rfl⟩
  have hfew := (cnt_few r).2
  rw [hm] at hfew ⊢
  have HC : Hid (∀ w, Calls Try.prog 40 #[.agg #[.int .i64 l, .int .i64 h, .int .i64 d]] w fun e w' => e = .returned (.int .i64 (m : Int)) ∧ Below w.heap.size w w') := Lib.hid (fun w => by rw [← hm]; exact Sc.refCount_any r w)
  have e4 : IntKind.i64.wrap ((m : Int) + 4) = (m : Int) + 4 := by rw [IntKind.wrap_i64]; omega
  have e1 : IntKind.i64.wrap ((m : Int) + 1) = (m : Int) + 1 := by rw [IntKind.wrap_i64]; omega
  obtain ⟨iu, hiu, hu0, hu1, hu2⟩ := info_parts info29
  have hmk : ∀ w : World, (Instr.makeSlice 42 (.int .i64 ((m : Int) + 4)) (.int .i64 ((m : Int) + 4))).run Try.prog w = .ok (.slice (some ⟨w.heap.size, 0, none⟩) (m + 4) (m + 4)) (w.alloc (.cells (u64s (List.replicate (m + 4) 0)).toArray 38)) := fun w => by
    have := run_make (P := Try.prog) w 42 38 iu (.int .u64 0) Try.underlying42 hiu hu0 .i64 .i64 ((m : Int) + 4) ((m : Int) + 4) (by omega) (by omega) (by rw [hu2]; omega) (by omega)
    rw [this, show ((m : Int) + 4).toNat = m + 4 by omega, hu1]
    congr 2
    rw [← noughts29]
  have HB0 := Lib.hid (show Below w.heap.size w (w.alloc (.cells #[.int .i64 l, .int .i64 h, .int .i64 d] 23)) from (Below.refl _ _).alloc (Nat.le_refl _) _)
  have cf : ∀ w2 : World, (w2.alloc (.cells (u64s (List.replicate (m + 4) 0)).toArray 38)).cell? ⟨w2.heap.size, m + 1, none⟩ = some (.int .u64 0) := fun w2 => by
    rw [(Row.new w2 38 (u64s (List.replicate (m + 4) 0))).cell, u64s_get, List.getElem?_replicate, if_pos (by omega)]; rfl
  have ff : ∀ w2 : World, (w2.alloc (.cells (u64s (List.replicate (m + 4) 0)).toArray 38)).frozen? ⟨w2.heap.size, m + 1, none⟩ = false := fun w2 => (Row.new w2 38 (u64s (List.replicate (m + 4) 0))).free (m + 1)
  have hlt4 : (m : Int) + 1 < (m : Int) + 4 := by omega
  clear hm r
  go_enter Try.func15, Try.ntmps15
  go_wp2_with (go_at_call 40; (with_reducible refine (HC.out _).mono ?_); rintro e w2 ⟨rfl, hb⟩; have HB2 := Lib.hid (HB0.out.trans (hb.mono HB0.out.size)); have k0 := cf w2; have k1 := ff w2; clear hb)
  go_ret
  rw [u64s_set]
  have hR := Row.new w2 38 (u64s (startH m))
  exact ⟨w2.heap.size, m + 4, by simp [startH], fun j x hx => ⟨_, 0, rfl, by simp, by rw [Nat.zero_add]; exact (hR.cell j).trans (by rw [u64s_get, hx]; rfl)⟩, HB2.out.size, by simp, HB2.out.alloc HB2.out.size _⟩
def okV (h v n : Int) : Bool := decide (0 ≤ v ∧ v ≤ h ∧ n ≠ 0)
theorem dright_rec {l h d v n : Int} (hn : 0 ≤ n) (w : World) : Calls Try.prog 14 #[.agg #[.int .i64 l, .int .i64 h, .int .i64 d], .agg #[.int .u8 1, .int .i64 v, .int .u64 n]] w fun e w' => e = .returned (.bool (okV h v n)) ∧ Below w.heap.size w w' := by
  have HB0 := Lib.hid (show Below w.heap.size w ((w.alloc (.cells #[.int .i64 l, .int .i64 h, .int .i64 d] 23)).alloc (.cells #[.int .u8 1, .int .i64 v, .int .u64 n] 40)) from ((Below.refl w.heap.size w).alloc (Nat.le_refl _) _).alloc (by simp) _)
  by_cases h0 : v < 0
  · have E := Lib.hid (show okV h v n = false from decide_eq_false (fun a => by omega))
    go_enter Try.func14, Try.ntmps14
    go_wp2
    go_ret
    exact ⟨by rw [E.out]; rfl, HB0.out⟩
  · have h0' : 0 ≤ v := by omega
    clear h0
    by_cases h1 : h < v
    · have E := Lib.hid (show okV h v n = false from decide_eq_false (fun a => by omega))
      go_enter Try.func14, Try.ntmps14
      go_wp2
      go_ret
      exact ⟨by rw [E.out]; rfl, HB0.out⟩
    · have h1' : v ≤ h := by omega
      clear h1
      by_cases h2 : n = 0
      · subst h2
        have E := Lib.hid (show okV h v 0 = false from decide_eq_false (fun a => a.2.2 rfl))
        go_enter Try.func14, Try.ntmps14
        go_wp2
        go_ret
        exact ⟨by rw [E.out]; rfl, HB0.out⟩
      · have h2' : 1 ≤ n := by omega
        have E := Lib.hid (show okV h v n = true from decide_eq_true ⟨h0', h1', h2⟩)
        clear h2
        go_enter Try.func14, Try.ntmps14
        go_wp2
        go_ret
        exact ⟨by rw [E.out]; rfl, HB0.out⟩
end Go.Proofs.Ytiifhkfkcljoiaa
