/- THE WALKS of the document's own lists: Copy, Same. -/
import Derived.Test.YtcocegneegjcpaaSb
namespace Go.Proofs.Ytcocegneegjcpaa
open Go Go.RowKit

/-- from the head of block g on lie the numbers xs -/
def Lies (w : World) (g : Nat) (xs : List Int) : Prop := ∀ j x, xs[j]? = some x → w.cell? ⟨g, j, none⟩ = some (.int .u64 x)
theorem Row.lies {w : World} {g : Nat} {t : TypeId} {xs : List Int} (h : Row w g t (u64s xs)) : Lies w g xs := fun j x hx => by rw [h.cell, u64s_get, hx]; rfl
theorem add_zero_ (g j : Nat) : (⟨g, 0, none⟩ : Addr).add j = ⟨g, j, none⟩ := by unfold Addr.add; split <;> simp_all
theorem own_lies {w : World} {base g n c : Nat} {e : TypeId} {xs : List Int} (h : w.ownsRow base e 1 (.slice (some ⟨g, 0, none⟩) n c) n (u64s xs)) : Lies w g xs := fun j x hx => by
  have := h.cells (g := g) rfl j (.int .u64 x) (by rw [u64s_get, hx]; rfl)
  rwa [add_zero_] at this
theorem Lies.below {w w' : World} {g B : Nat} {xs : List Int} (h : Lies w g xs) (hb : Below B w w') (hg : g < B) : Lies w' g xs := fun j x hx => (hb.cell (p := ⟨g, j, none⟩) hg).trans (h j x hx)
theorem Lies.part {w w' : World} {g : Nat} {S : List Nat} {xs : List Int} (h : Lies w g xs) (hp : Part S w w') (hg : g < w.heap.size) (hS : g ∉ S) : Lies w' g xs :=
  fun j x hx => (World.cell?_of_block (w := w) (a := ⟨g, j, none⟩) (hp.block g hg hS)).trans (h j x hx)

/-- a slice value that owns a row of its own: where the row lies -/
theorem own_some {w : World} {base n : Nat} {e : TypeId} {v : Value} {xs : List Value} {size : Nat} (h : w.ownsRow base e size v n xs) (hn : 0 < n) : ∃ g c, v = .slice (some ⟨g, 0, none⟩) n c ∧ base ≤ g ∧ g < w.heap.size := by
  rcases h.2 with ⟨_, e⟩ | ⟨g, c, cur, hv, hb, hh, _⟩
  · omega
  · exact ⟨g, c, hv, hb, lt_of_block hh⟩

theorem new_one (w : World) (v : Value) (t : TypeId) : ∀ j u, [v][j]? = some u → (w.alloc (.cells #[v] t)).cell? ((⟨w.heap.size, 0, none⟩ : Addr).add j) = some u := by
  intro j u hj
  match j with
  | 0 => simp at hj; subst hj; simp [go_sem]
  | (j + 1) => simp at hj
theorem one_int (k : IntKind) (x : Int) : ∀ u ∈ [Value.int k x], u.oneCell' = true := by intro u hu; simp at hu; subst hu; rfl
theorem own_from {w : World} {base n size : Nat} {e : TypeId} {v : Value} {xs : List Value} (h : w.ownsRow base e size v n xs) : ∀ q, v.ownBlock = some q → base ≤ q := by
  intro q hq
  rcases h.2 with ⟨e, _⟩ | ⟨g', _, _, e, hb', _⟩
  · rw [e] at hq; cases hq
  · rw [e] at hq; cases hq; exact hb'
theorem u64s_snoc (xs : List Int) (x : Int) : u64s xs ++ [.int .u64 x] = u64s (xs ++ [x]) := by simp [u64s]

def CopyAt (w : World) (xs : List Int) (k : Nat) (v : Value) (wr : World) : Prop := wr.ownsRow w.heap.size 29 1 v k (u64s (xs.take k)) ∧ Below w.heap.size w wr
/-- what Copy leaves -/
def CopiedTo (w : World) (xs : List Int) (e : Ending) (w' : World) : Prop :=
  ∃ g c, e = .returned (.slice (some ⟨g, 0, none⟩) xs.length c) ∧ w.heap.size ≤ g ∧ w'.ownsRow w.heap.size 29 1 (.slice (some ⟨g, 0, none⟩) xs.length c) xs.length (u64s xs) ∧ Below w.heap.size w w'

set_option maxRecDepth 100000 in
set_option maxHeartbeats 800000 in
theorem copy_any {w : World} {g c : Nat} {xs : List Int} (h : Lies w g xs) (hg : g < w.heap.size) (h0 : 0 < xs.length) (hl : xs.length ≤ 1000000) :
    Calls Try.prog 66 #[.slice (some ⟨g, 0, none⟩) xs.length c] w (CopiedTo w xs) := by
  obtain ⟨i0, hi, hz0, hz1, hz2⟩ := info_parts info29
  have H := Lib.hid h
  clear h
  go_enter Try.func66, Try.ntmps66
  go_wp2
  go_loopw [3, 4] (fun v i wr => ∃ k : Nat, k ≤ xs.length ∧ i = .int .i64 k ∧ CopyAt w xs k v wr) (fun _ i _ => xs.length - (intOf i).toNat)
  case atStart => exact ⟨0, Nat.zero_le _, rfl, ⟨by simp, .inl ⟨rfl, rfl⟩⟩, Below.refl _ _⟩
  case round =>
    obtain ⟨k, hk, rfl, hA⟩ := hrel
    have HA := Lib.hid hA
    clear hA
    by_cases hlt : k < xs.length
    · obtain ⟨x, hx⟩ : ∃ x, xs[k]? = some x := ⟨xs[k], List.getElem?_eq_getElem hlt⟩
      have hc := H.out.below HA.out.2 hg k x hx
      have HX := Lib.hid hx
      have hsz := HA.out.2.size
      have hown := HA.out.1
      have HO := Lib.hid hown
      have H3 : Hid (k + 1 ≤ maxLen) := Lib.hid (by unfold maxLen; omega)
      have H4 : Hid ((k + 1) * 8 ≤ 140737488355328) := Lib.hid (by omega)
      have H5 : Hid (w.heap.size ≤ (wr.alloc (.cells #[.int .u64 x] 29)).heap.size) := Lib.hid (by simp; omega)
      clear hx hown
      go_wp2_with (at_builtin; refine wpList_append_own _ rfl _ _ 71 rfl w.heap.size 29 i0 (.int .u64 0) 1 8 Try.underlying71 hi hz0 hz1 hz2 rfl (by decide) _ _ _ rfl (HO.out.alloc _) ⟨wr.heap.size, 0, none⟩ 1 1 [.int .u64 x] rfl rfl (new_one _ _ _) (one_int _ _) H3.out H4.out H5.out ?_; intro v' w1 hown1 hgr1 _; have HO1 := Lib.hid hown1; have HG1 := Lib.hid hgr1; clear hown1 hgr1)
      go_roundw
      case rel => exact ⟨k + 1, by omega, by go_num, by have := HO1.out; rwa [u64s_snoc, show xs.take k ++ [x] = xs.take (k + 1) by rw [List.take_add_one, HX.out]; rfl] at this, (HA.out.2.alloc hsz _).grown HG1.out (by simp; omega) (own_from HO.out)⟩
      case measure => simp [intOf]; omega
    · obtain rfl : k = xs.length := by omega
      go_wp2
      go_ret
      obtain ⟨h1, h2⟩ := HA.out
      rw [List.take_length] at h1
      obtain ⟨g', c', rfl, hb, _⟩ := own_some h1 h0
      exact ⟨g', c', rfl, hb, h1, h2⟩

set_option maxRecDepth 100000 in
theorem same_yes {w : World} {g g' c c' m m' : Nat} {xs : List Int} (h : Lies w g xs) (h' : Lies w g' xs) (hl : xs.length ≤ 1000000) (hm : xs.length = m) (hm' : xs.length = m') :
    Calls Try.prog 31 #[.slice (some ⟨g, 0, none⟩) m c, .slice (some ⟨g', 0, none⟩) m' c'] w fun e w' => e = .returned (.bool true) ∧ Below w.heap.size w w' := by
  subst hm
  subst hm'
  have H := Lib.hid h
  have H' := Lib.hid h'
  clear h h'
  go_enter Try.func31, Try.ntmps31
  go_wp2
  go_loopw [5] (fun i wr => ∃ k : Nat, k ≤ xs.length ∧ i = .int .i64 k ∧ Below w.heap.size w wr ∧ Lies wr g xs ∧ Lies wr g' xs) (fun i _ => xs.length - (intOf i).toNat)
  case atStart => exact ⟨0, Nat.zero_le _, rfl, Below.refl _ _, H.out, H'.out⟩
  case round =>
    obtain ⟨k, hk, rfl, hb, h1, h2⟩ := hrel
    by_cases hlt : k < xs.length
    · obtain ⟨x, hx⟩ : ∃ x, xs[k]? = some x := ⟨xs[k], List.getElem?_eq_getElem hlt⟩
      have hc := h1 k x hx
      have hc' := h2 k x hx
      have hlt' : (k : Int) < (xs.length : Int) := by omega
      have hxx : ((x : Int) != x) = false := by simp
      have HB := Lib.hid hb
      have H1 := Lib.hid h1
      have H2 := Lib.hid h2
      clear hx hb h1 h2
      go_wp2
      go_quiet (fail)
      go_wp2
      go_roundw
      case rel => exact ⟨k + 1, by omega, by go_num, ⟨HB.out.os, HB.out.tape, HB.out.output, HB.out.size, HB.out.block⟩, H1.out, H2.out⟩
      case measure => simp [intOf]; omega
    · obtain rfl : k = xs.length := by omega
      have HB := Lib.hid hb
      clear hb h1 h2
      go_wp2
      go_ret
      exact ⟨rfl, HB.out⟩
end Go.Proofs.Ytcocegneegjcpaa
