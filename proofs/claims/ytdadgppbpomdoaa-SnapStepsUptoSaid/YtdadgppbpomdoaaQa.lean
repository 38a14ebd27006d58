/- THE DOCUMENT'S OWN WORDS AND LISTS: Reg, Word, Copy, same, All. -/
import Derived.Test.YtdadgppbpomdoaaPf
namespace Go.Proofs.Ytdadgppbpomdoaa
open Go Go.RowKit

/-- from A on lie the words xs -/
def LiesU (w : World) (A : Option Addr) (xs : List Int) : Prop := ∀ j x, xs[j]? = some x → ∃ g, A = some ⟨g, 0, none⟩ ∧ g < w.heap.size ∧ w.cell? ⟨g, j, none⟩ = some (.int .u64 x)
theorem LiesU.nil (w : World) (A : Option Addr) : LiesU w A [] := fun j x hx => by simp at hx
theorem LiesU.below {w w' : World} {A : Option Addr} {xs : List Int} (h : LiesU w A xs) (hb : Below w.heap.size w w') : LiesU w' A xs := fun j x hx => by
  obtain ⟨g, e, hg, hc⟩ := h j x hx
  exact ⟨g, e, Nat.lt_of_lt_of_le hg hb.size, (hb.cell (p := ⟨g, j, none⟩) hg).trans hc⟩
theorem own_liesU {w : World} {base n c : Nat} {e : TypeId} {A : Option Addr} {xs : List Int} (h : w.ownsRow base e 1 (.slice A n c) n (u64s xs)) : LiesU w A xs := fun j x hx => by
  have hn : xs.length = n := by have := h.1; simp at this; omega
  have hl := lt_of_get hx
  obtain ⟨g, c', hv, _, hg⟩ := own_some h (by omega)
  cases hv
  have h0 := h.cells (g := g) rfl j (.int .u64 x) (by rw [u64s_get, hx]; rfl)
  rw [add_zero_] at h0
  exact ⟨g, rfl, hg, h0⟩
theorem u64s_snoc (xs : List Int) (x : Int) : u64s xs ++ [.int .u64 x] = u64s (xs ++ [x]) := by simp [u64s]

set_option maxRecDepth 100000
theorem dreg_any {x : Int} (hx : U64 x) (w : World) :
    Calls Try.prog 35 #[.int .u64 x] w fun e w' => e = .returned (regV x) ∧ Below w.heap.size w w' := by
  have hm : x / 4294967296 % 4294967296 = numW x := by have := hx.num; unfold U32 at this; unfold numW at *; omega
  go_enter Try.func35, Try.ntmps35
  go_wp2
  refine bodyPost_ret (v := regV x) (by simp [results, Try.results35, go_sem, regV, valW, hm]) rfl ⟨rfl, ?_⟩
  repeat (first | exact Below.refl _ _ | refine Below.alloc ?_ (by simp; try omega) _ | refine Below.setCell ?_ (by simp) _)
theorem dword_any {a b : Int} (ha : U32 a) (hb : U32 b) (w : World) :
    Calls Try.prog 51 #[.agg #[.int .u32 a, .int .u32 b]] w fun e w' => e = .returned (.int .u64 (a * 4294967296 + b)) ∧ Below w.heap.size w w' := by
  have ha0 := ha.1
  have ha1 := ha.2
  have hb0 := hb.1
  have hb1 := hb.2
  go_enter Try.func51, Try.ntmps51
  go_wp2
  go_ret
  exact ⟨by go_num, (Below.refl _ _).alloc (Nat.le_refl _) _⟩

/-- a row of its own that a call leaves -/
def OwnU (w : World) (xs : List Int) (e : Ending) (w' : World) : Prop := ∃ v, e = .returned v ∧ w'.ownsRow w.heap.size 39 1 v xs.length (u64s xs) ∧ Below w.heap.size w w'
def CopyU (w : World) (xs : List Int) (k : Nat) (v : Value) (wr : World) : Prop := wr.ownsRow w.heap.size 39 1 v k (u64s (xs.take k)) ∧ Below w.heap.size w wr
theorem one_u64 (x : Int) : ∀ u ∈ [Value.int .u64 x], u.oneCell' = true := by intro u hu; simp at hu; subst hu; rfl
set_option maxHeartbeats 800000 in
theorem dcopy_any {w : World} {A : Option Addr} {n c : Nat} {xs : List Int} (h : LiesU w A xs) (hn : xs.length = n) (hl : n ≤ 1000000) :
    Calls Try.prog 50 #[.slice A n c] w (OwnU w xs) := by
  obtain ⟨i0, hi, hz0, hz1, hz2⟩ := info_parts info29
  subst hn
  have H := Lib.hid h
  clear h
  go_enter Try.func50, Try.ntmps50
  go_wp2
  go_loopw [3, 4] (fun v i wr => ∃ k : Nat, k ≤ xs.length ∧ i = .int .i64 k ∧ CopyU w xs k v wr) (fun _ i _ => xs.length - (intOf i).toNat)
  case atStart => exact ⟨0, Nat.zero_le _, rfl, ⟨by simp, .inl ⟨rfl, rfl⟩⟩, Below.refl _ _⟩
  case round =>
    obtain ⟨k, hk, rfl, hA⟩ := hrel
    have HA := Lib.hid hA
    clear hA
    by_cases hlt : k < xs.length
    · obtain ⟨x, hx⟩ : ∃ x, xs[k]? = some x := ⟨xs[k], List.getElem?_eq_getElem hlt⟩
      obtain ⟨g, rfl, hg, hc⟩ := (H.out.below HA.out.2) k x hx
      have HX := Lib.hid hx
      have hsz := HA.out.2.size
      have HO := Lib.hid HA.out.1
      have H3 : Hid (k + 1 ≤ maxLen) := Lib.hid (by unfold maxLen; omega)
      have H4 : Hid ((k + 1) * 8 ≤ 140737488355328) := Lib.hid (by omega)
      have H5 : Hid (w.heap.size ≤ (wr.alloc (.cells #[.int .u64 x] 39)).heap.size) := Lib.hid (by simp; omega)
      clear hx
      go_wp2_with (at_builtin; refine wpList_append_own _ rfl _ _ 40 rfl w.heap.size 39 i0 (.int .u64 0) 1 8 Try.underlying40 hi hz0 hz1 hz2 rfl (by decide) _ _ _ rfl (HO.out.alloc _) ⟨wr.heap.size, 0, none⟩ 1 1 [.int .u64 x] rfl rfl (new_cells _ _ _) (one_u64 _) H3.out H4.out H5.out ?_; intro v' w1 hown1 hgr1 _; have HO1 := Lib.hid hown1; have HG1 := Lib.hid hgr1; clear hown1 hgr1)
      go_roundw
      case rel => exact ⟨k + 1, by omega, by go_num, by have := HO1.out; rwa [u64s_snoc, show xs.take k ++ [x] = xs.take (k + 1) by rw [List.take_add_one, HX.out]; rfl] at this, (HA.out.2.alloc hsz _).grown HG1.out (by simp; omega) (own_from HO.out)⟩
      case measure => simp [intOf]; omega
    · obtain rfl : k = xs.length := by omega
      go_wp2
      go_ret
      obtain ⟨h1, h2⟩ := HA.out
      rw [List.take_length] at h1
      exact ⟨_, rfl, h1, h2⟩

theorem dusame_len {w : World} {A B : Option Addr} {n m c c' : Nat} (h : n ≠ m) :
    Calls Try.prog 52 #[.slice A n c, .slice B m c'] w fun e w' => e = .returned (.bool false) ∧ ∃ m, w' = w.drewN m := by
  have h' : ¬ (n : Int) = (m : Int) := by omega
  have hn : ((n : Int) == (m : Int)) = false := by simpa using h'
  have hn' : ((n : Int) != (m : Int)) = true := by simpa using h'
  clear h h'
  go_enter Try.func52, Try.ntmps52
  go_wp2
  go_ret
  exact ⟨rfl, 0, rfl⟩
theorem dusame_same {w : World} {A B : Option Addr} {c c' n : Nat} {xs ys : List Int} (h : LiesU w A xs) (h' : LiesU w B ys) (hx : xs.length = n) (hy : ys.length = n) (hl : n ≤ 1000000) :
    Calls Try.prog 52 #[.slice A n c, .slice B n c'] w fun e w' => e = .returned (.bool (decide (xs = ys))) ∧ ∃ m, w' = w.drewN m := by
  have H := Lib.hid h
  have H' := Lib.hid h'
  have HX := Lib.hid hx
  have HY := Lib.hid hy
  have hnn : ((n : Int) != (n : Int)) = false := by simp
  clear h h' hx hy
  go_enter Try.func52, Try.ntmps52
  go_wp2
  go_loopw [5] (fun i wr => ∃ k : Nat, k ≤ n ∧ i = .int .i64 k ∧ xs.take k = ys.take k ∧ ∃ m, wr = w.drewN m) (fun i _ => n - (intOf i).toNat)
  case atStart => exact ⟨0, Nat.zero_le _, rfl, rfl, 0, rfl⟩
  case round =>
    obtain ⟨k, hk, rfl, ht, m, rfl⟩ := hrel
    have HT := Lib.hid ht
    clear ht
    by_cases hlt : k < n
    · obtain ⟨x, hx⟩ : ∃ x, xs[k]? = some x := ⟨xs[k]'(by rw [HX.out]; exact hlt), List.getElem?_eq_getElem _⟩
      obtain ⟨y, hy⟩ : ∃ y, ys[k]? = some y := ⟨ys[k]'(by rw [HY.out]; exact hlt), List.getElem?_eq_getElem _⟩
      obtain ⟨g, rfl, _, hc0⟩ := H.out k x hx
      obtain ⟨g', rfl, _, hd0⟩ := H'.out k y hy
      have hlt' : (k : Int) < (n : Int) := by omega
      have HXk := Lib.hid hx
      have HYk := Lib.hid hy
      clear hx hy
      by_cases hxy : x = y
      · have hxx : (x != y) = false := by simp [hxy]
        have HE := Lib.hid hxy
        clear hxy
        go_wp2
        go_quiet (fail)
        go_wp2
        go_roundw
        case rel => exact ⟨k + 1, by omega, by go_num, by rw [List.take_add_one, List.take_add_one, HXk.out, HYk.out, HT.out, HE.out], _, rfl⟩
        case measure => simp [intOf]; omega
      · have hne : ¬ xs = ys := fun e => hxy (by have h1 := HXk.out; have h2 := HYk.out; rw [e, h2] at h1; exact (Option.some.inj h1).symm)
        have HN := Lib.hid hne
        have hxx : (x != y) = true := by simpa using hxy
        clear hxy hne
        go_wp2
        go_quiet (fail)
        go_wp2
        go_ret
        exact ⟨by simp [HN.out], _, World.drewN_drewN ..⟩
    · obtain rfl : k = n := by omega
      go_wp2
      go_ret
      have he : xs = ys := by have := HT.out; rwa [List.take_of_length_le (by rw [HX.out]; omega), List.take_of_length_le (by rw [HY.out]; omega)] at this
      exact ⟨by simp [he], m, rfl⟩
theorem dusame_any {w : World} {A B : Option Addr} {c c' n m : Nat} {xs ys : List Int} (h : LiesU w A xs) (h' : LiesU w B ys) (hx : xs.length = n) (hy : ys.length = m) (hl : n ≤ 1000000) :
    Calls Try.prog 52 #[.slice A n c, .slice B m c'] w fun e w' => e = .returned (.bool (decide (xs = ys))) ∧ ∃ m, w' = w.drewN m := by
  by_cases e : n = m
  · subst e; exact dusame_same h h' hx hy hl
  · rw [decide_eq_false (fun e' => e (by rw [← hx, ← hy, e']))]
    exact dusame_len e

/-- what All leaves -/
def OwnsR (w : World) (xs : List Int) (e : Ending) (w' : World) : Prop := ∃ v, e = .returned v ∧ w'.ownsRow w.heap.size 60 2 v xs.length (regCells xs) ∧ Below w.heap.size w w'
def AllU (w : World) (xs : List Int) (k : Nat) (v : Value) (wr : World) : Prop := wr.ownsRow w.heap.size 60 2 v k (regCells (xs.take k)) ∧ Below w.heap.size w wr
set_option maxHeartbeats 800000 in
theorem dall_any {w : World} {A : Option Addr} {n c : Nat} {xs : List Int} (h : LiesU w A xs) (hu : ∀ x ∈ xs, U64 x) (hn : xs.length = n) (hl : n ≤ 1000000) :
    Calls Try.prog 21 #[.slice A n c] w (OwnsR w xs) := by
  obtain ⟨i0, hi, hz0, hz1, hz2⟩ := info_parts infoReg
  subst hn
  have H := Lib.hid h
  have HU := Lib.hid hu
  clear h hu
  go_enter Try.func21, Try.ntmps21
  go_wp2
  go_loopw [3, 4] (fun v i wr => ∃ k : Nat, k ≤ xs.length ∧ i = .int .i64 k ∧ AllU w xs k v wr) (fun _ i _ => xs.length - (intOf i).toNat)
  case atStart => exact ⟨0, Nat.zero_le _, rfl, ⟨by simp [regCells], .inl ⟨rfl, rfl⟩⟩, Below.refl _ _⟩
  case round =>
    obtain ⟨k, hk, rfl, hA⟩ := hrel
    have HA := Lib.hid hA
    clear hA
    by_cases hlt : k < xs.length
    · obtain ⟨x, hx⟩ : ∃ x, xs[k]? = some x := ⟨xs[k], List.getElem?_eq_getElem hlt⟩
      obtain ⟨g, rfl, hg, hc⟩ := (H.out.below HA.out.2) k x hx
      have HX := Lib.hid hx
      have HUx := Lib.hid (HU.out x (List.mem_of_getElem? hx))
      have hsz := HA.out.2.size
      have H3 : Hid (k + 1 ≤ maxLen) := Lib.hid (by unfold maxLen; omega)
      have H4 : Hid ((k + 1) * 8 ≤ 140737488355328) := Lib.hid (by omega)
      clear hx
      go_wp2_with (first
        | (go_at_call 35; refine (dreg_any HUx.out _).mono ?_; unfold regV; rintro e w1 ⟨rfl, hb1⟩; have HB1 := Lib.hid hb1; have HO := Lib.hid (own_part HA.out.1 (Part.of_below hb1 (Nat.le_refl _) []) (by simp)); have HS1 : Hid (w.heap.size ≤ (w1.alloc (.cells #[.int .u32 (numW x), .int .u32 (valW x)] 60)).heap.size) := Lib.hid (by have := hb1.size; simp; omega); clear hb1)
        | (at_builtin; refine wpList_append_own _ rfl _ _ 41 rfl w.heap.size 60 i0 (.agg #[.int .u32 0, .int .u32 0]) 2 8 Try.underlying41 hi hz0 hz1 hz2 rfl (by decide) _ _ _ rfl (HO.out.alloc _) ⟨w1.heap.size, 0, none⟩ 1 1 (regCells [x]) rfl rfl (new_cells w1 (regCells [x]) 60) (reg_cells_one [x]) H3.out H4.out HS1.out ?_; intro v' w2 hown2 hgr2 _; have HO2 := Lib.hid hown2; have HG2 := Lib.hid hgr2; clear hown2 hgr2))
      go_roundw
      case rel => exact ⟨k + 1, by omega, by go_num, by have := HO2.out; rwa [← regCells_append, show xs.take k ++ [x] = xs.take (k + 1) by rw [List.take_add_one, HX.out]; rfl] at this, ((HA.out.2.trans (HB1.out.mono hsz)).alloc (by have := HB1.out.size; omega) _).grown HG2.out (by have := HB1.out.size; simp; omega) (own_from HO.out)⟩
      case measure => simp [intOf]; omega
    · obtain rfl : k = xs.length := by omega
      go_wp2
      go_ret
      obtain ⟨h1, h2⟩ := HA.out
      rw [List.take_length] at h1
      exact ⟨_, rfl, h1, h2⟩
end Go.Proofs.Ytdadgppbpomdoaa
