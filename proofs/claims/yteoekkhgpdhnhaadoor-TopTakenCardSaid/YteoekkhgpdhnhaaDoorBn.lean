/- WHAT A QUOTA HAS, WHAT IS IN HAND AND WHAT WAS TAKEN: no step turns their sum. -/
import Derived.Test.YteoekkhgpdhnhaaDoorBm
namespace Go.Proofs.YteoekkhgpdhnhaaDoor
open Go Go.RowKit
set_option maxRecDepth 100000
/-- what is in hand -/
def handC (o : OpB) : Int := if o.k = 1 then (if o.ph = 4 then o.hand + 1 else 0) else if o.k = 2 then (if o.ph = 1 then o.hand else 0) else 0
/-- what was taken -/
def takenC (o : OpB) : Int := if o.k = 1 then (if o.ph = 9 then o.ans else 0) else 0
/-- an operation's hand and answer are as may be -/
def HandOk (o : OpB) : Prop := (o.k = 1 → o.ph = 4 → 0 < o.hand) ∧ (o.k = 2 → o.ph = 1 → 0 < o.hand) ∧ (o.k = 1 → o.ph = 9 → o.ans = 0 ∨ o.ans = 1)
theorem HandOk.new (k : Int) (wk : Nat) : HandOk (newB k wk) := ⟨fun _ h => absurd h (by simp [newB]), fun _ h => absurd h (by simp [newB]), fun _ h => absurd h (by simp [newB])⟩
theorem handC_new (k : Int) (wk : Nat) : handC (newB k wk) = 0 := by simp [handC, newB]
theorem takenC_new (k : Int) (wk : Nat) : takenC (newB k wk) = 0 := by simp [takenC, newB]
theorem handC_pos {o : OpB} (h : HandOk o) : 0 ≤ handC o := by
  obtain ⟨h1, h2, _⟩ := h
  unfold handC
  split
  · split
    · have := h1 (by assumption) (by assumption); omega
    · omega
  · split
    · split
      · have := h2 (by assumption) (by assumption); omega
      · omega
    · omega
theorem takenC_pos {o : OpB} (h : HandOk o) : 0 ≤ takenC o ∧ takenC o ≤ 1 := by
  obtain ⟨_, _, h3⟩ := h
  unfold takenC
  split
  · split
    · rcases h3 (by assumption) (by assumption) with h | h <;> omega
    · omega
  · omega
theorem handC_over {o : OpB} (h : o.ph = 9) : handC o = 0 := by simp [handC, h]
theorem sum_set {ws : List Int} : ∀ {i : Nat} {x y : Int}, ws[i]? = some x → (ws.set i y).sum = ws.sum - x + y := by
  induction ws with
  | nil => intro i x y h; simp at h
  | cons a ws ih =>
    intro i x y h
    cases i with
    | zero => simp at h; subst h; simp; omega
    | succ i =>
      simp at h
      have := ih (y := y) h
      simp [this]
      omega
theorem sum_pos {ws : List Int} (hu : ∀ x ∈ ws, 0 ≤ x) : 0 ≤ ws.sum := by
  induction ws with
  | nil => simp
  | cons a ws ih =>
    have h1 := hu a (by simp)
    have h2 := ih (fun x hx => hu x (by simp [hx]))
    simp
    omega
theorem le_sum0 {ws : List Int} (hu : ∀ x ∈ ws, 0 ≤ x) : ∀ {i : Nat} {x : Int}, ws[i]? = some x → x ≤ ws.sum := by
  induction ws with
  | nil => intro i x h; simp at h
  | cons a ws ih =>
    intro i x h
    have h0 := hu a (by simp)
    have hu' : ∀ x ∈ ws, 0 ≤ x := fun x hx => hu x (by simp [hx])
    have h1 := sum_pos hu'
    cases i with
    | zero => simp at h; subst h; simp; omega
    | succ i => simp at h; have := ih hu' h; simp; omega
theorem le_sum {ws : List Int} (hu : ∀ x ∈ ws, U64 x) {i : Nat} {x : Int} (h : ws[i]? = some x) : x ≤ ws.sum := le_sum0 (fun x hx => (hu x hx).1) h
theorem five_eq {a b c d x0 x1 x2 x3 : Int} {e x4 : Bool} (h : (a, b, c, d, e) = (x0, x1, x2, x3, x4)) : x0 = a ∧ x1 = b ∧ x2 = c ∧ x3 = d ∧ x4 = e := by
  simp only [Prod.mk.injEq] at h
  exact ⟨h.1.symm, h.2.1.symm, h.2.2.1.symm, h.2.2.2.1.symm, h.2.2.2.2.symm⟩
/-- no step turns the sum -/
theorem step_sum {ba : Int} {ws : List Int} {o : OpB} (ho : OkB ws.length o) (hn9 : ¬ o.ph = 9) (hok : HandOk o) (hu : ∀ x ∈ ws, U64 x) (hL : ws.sum + handC o < 18446744073709551616) (hb : 1 ≤ ba) :
    (stepBW ba ws o).sum + handC (stepB ba ws o) + takenC (stepB ba ws o) = ws.sum + handC o + takenC o := by
  have hH := handC_pos hok
  by_cases h9 : o.ph = 9
  · exact absurd h9 hn9
  have get : ∀ i, i < ws.length → ∃ x, ws[i]? = some x ∧ U64 x := fun i hi => ⟨ws[i], List.getElem?_eq_getElem hi, hu _ (List.getElem_mem hi)⟩
  obtain ⟨k, wk, ph, saw, hand, c, sum, ans⟩ := o
  dsimp only at h9
  rcases ho with ⟨a, b, hh⟩ | ⟨a, b, hh⟩ | ⟨a, b, hh⟩
  · dsimp only at a b hh
    subst a
    obtain ⟨x, hx, ux⟩ := get _ b
    obtain ⟨y, hy, uy⟩ := get 0 (by omega)
    rcases hh with hh | rfl | ⟨rfl, hz0, hus⟩ | rfl | ⟨rfl, hz0, hus⟩ | rfl
    · exact absurd hh h9
    · by_cases hz : 0 < x
      · rw [(show stepB ba ws ⟨1, wk, 0, saw, hand, c, sum, ans⟩ = ⟨1, wk, 1, x, hand, c, sum, ans⟩ by simp [stepB, hx, hz]), (show stepBW ba ws ⟨1, wk, 0, saw, hand, c, sum, ans⟩ = ws by simp [stepBW, hx, hz])]; simp only [handC, takenC]; try simp
      · rw [(show stepB ba ws ⟨1, wk, 0, saw, hand, c, sum, ans⟩ = ⟨1, wk, 2, saw, hand, c, sum, ans⟩ by simp [stepB, hx, hz]), (show stepBW ba ws ⟨1, wk, 0, saw, hand, c, sum, ans⟩ = ws by simp [stepBW, hx, hz])]; simp only [handC, takenC]; try simp
    · by_cases e : x = saw
      · rw [(show stepB ba ws ⟨1, wk, 1, saw, hand, c, sum, ans⟩ = ⟨1, wk, 9, saw, hand, c, sum, 1⟩ by simp [stepB, hx, e]), (show stepBW ba ws ⟨1, wk, 1, saw, hand, c, sum, ans⟩ = ws.set (wk + 1) (saw - 1) by simp [stepBW, hx, e])]; simp only [handC, takenC]; rw [sum_set hx]; try simp; try (unfold U64 at *; omega)
      · rw [(show stepB ba ws ⟨1, wk, 1, saw, hand, c, sum, ans⟩ = ⟨1, wk, 0, saw, hand, c, sum, ans⟩ by simp [stepB, hx, e]), (show stepBW ba ws ⟨1, wk, 1, saw, hand, c, sum, ans⟩ = ws by simp [stepBW, hx, e])]; simp only [handC, takenC]; try simp
    · by_cases hz : 0 < y
      · rw [(show stepB ba ws ⟨1, wk, 2, saw, hand, c, sum, ans⟩ = ⟨1, wk, 3, y, hand, c, sum, ans⟩ by simp [stepB, hy, hz]), (show stepBW ba ws ⟨1, wk, 2, saw, hand, c, sum, ans⟩ = ws by simp [stepBW, hy, hz])]; simp only [handC, takenC]; try simp
      · rw [(show stepB ba ws ⟨1, wk, 2, saw, hand, c, sum, ans⟩ = ⟨1, wk, 9, saw, hand, c, sum, 0⟩ by simp [stepB, hy, hz]), (show stepBW ba ws ⟨1, wk, 2, saw, hand, c, sum, ans⟩ = ws by simp [stepBW, hy, hz])]; simp only [handC, takenC]; try simp
    · by_cases e : y = saw
      · by_cases h1 : min ba saw = 1
        · rw [(show stepB ba ws ⟨1, wk, 3, saw, hand, c, sum, ans⟩ = ⟨1, wk, 9, saw, hand, c, sum, 1⟩ by simp [stepB, hy, e, h1]), (show stepBW ba ws ⟨1, wk, 3, saw, hand, c, sum, ans⟩ = ws.set 0 (saw - min ba saw) by simp [stepBW, hy, e, h1])]; simp only [handC, takenC]; rw [sum_set hy]; try simp; try (unfold U64 at *; omega)
        · rw [(show stepB ba ws ⟨1, wk, 3, saw, hand, c, sum, ans⟩ = ⟨1, wk, 4, saw, min ba saw - 1, c, sum, ans⟩ by simp [stepB, hy, e, h1]), (show stepBW ba ws ⟨1, wk, 3, saw, hand, c, sum, ans⟩ = ws.set 0 (saw - min ba saw) by simp [stepBW, hy, e, h1])]; simp only [handC, takenC]; rw [sum_set hy]; try simp; try (unfold U64 at *; omega)
      · rw [(show stepB ba ws ⟨1, wk, 3, saw, hand, c, sum, ans⟩ = ⟨1, wk, 2, saw, hand, c, sum, ans⟩ by simp [stepB, hy, e]), (show stepBW ba ws ⟨1, wk, 3, saw, hand, c, sum, ans⟩ = ws by simp [stepBW, hy, e])]; simp only [handC, takenC]; try simp
    · rw [(show stepB ba ws ⟨1, wk, 4, saw, hand, c, sum, ans⟩ = ⟨1, wk, 9, saw, hand, c, sum, 1⟩ by simp [stepB, hx]), (show stepBW ba ws ⟨1, wk, 4, saw, hand, c, sum, ans⟩ = ws.set (wk + 1) (IntKind.u64.wrap (x + hand)) by simp [stepBW, hx])]; simp only [handC, takenC]; have h0 := hok.1 rfl rfl; dsimp only at h0; simp [handC] at hL hH; rw [show IntKind.u64.wrap (x + hand) = x + hand by have := le_sum hu hx; unfold U64 at ux; rw [IntKind.wrap_u64]; omega]; rw [sum_set hx]; try simp; try (unfold U64 at *; omega)
  · dsimp only at a b hh
    subst a
    obtain ⟨x, hx, ux⟩ := get _ b
    obtain ⟨y, hy, uy⟩ := get 0 (by omega)
    rcases hh with hh | rfl | rfl
    · exact absurd hh h9
    · by_cases hz : 0 < x
      · rw [(show stepB ba ws ⟨2, wk, 0, saw, hand, c, sum, ans⟩ = ⟨2, wk, 1, saw, x, c, sum, ans⟩ by simp [stepB, hx, hz]), (show stepBW ba ws ⟨2, wk, 0, saw, hand, c, sum, ans⟩ = ws.set (wk + 1) 0 by simp [stepBW, hx, hz])]; simp only [handC, takenC]; rw [sum_set hx]; try simp; try (unfold U64 at *; omega)
      · rw [(show stepB ba ws ⟨2, wk, 0, saw, hand, c, sum, ans⟩ = ⟨2, wk, 9, saw, hand, c, sum, 0⟩ by simp [stepB, hx, hz]), (show stepBW ba ws ⟨2, wk, 0, saw, hand, c, sum, ans⟩ = ws.set (wk + 1) 0 by simp [stepBW, hx, hz])]; simp only [handC, takenC]; rw [sum_set hx]; try simp; try (unfold U64 at *; omega)
    · rw [(show stepB ba ws ⟨2, wk, 1, saw, hand, c, sum, ans⟩ = ⟨2, wk, 9, saw, hand, c, sum, IntKind.i64.wrap hand⟩ by simp [stepB, hy]), (show stepBW ba ws ⟨2, wk, 1, saw, hand, c, sum, ans⟩ = ws.set 0 (IntKind.u64.wrap (y + hand)) by simp [stepBW, hy])]; simp only [handC, takenC]; have h0 := hok.2.1 rfl rfl; dsimp only at h0; simp [handC] at hL hH; rw [show IntKind.u64.wrap (y + hand) = y + hand by have := le_sum hu hy; unfold U64 at uy; rw [IntKind.wrap_u64]; omega]; rw [sum_set hy]; try simp; try (unfold U64 at *; omega)
  · dsimp only at a b hh
    subst a
    rcases hh with hh | ⟨rfl, hc⟩
    · exact absurd hh h9
    · by_cases e : c + 1 = ws.length
      · rw [(show stepB ba ws ⟨3, wk, 0, saw, hand, c, sum, ans⟩ = ⟨3, wk, 9, saw, hand, c + 1, IntKind.u64.wrap (sum + ws.getD c 0), IntKind.i64.wrap (IntKind.u64.wrap (sum + ws.getD c 0))⟩ by simp [stepB, e]), (show stepBW ba ws ⟨3, wk, 0, saw, hand, c, sum, ans⟩ = ws by simp [stepBW, e])]; simp only [handC, takenC]; try simp
      · rw [(show stepB ba ws ⟨3, wk, 0, saw, hand, c, sum, ans⟩ = ⟨3, wk, 0, saw, hand, c + 1, IntKind.u64.wrap (sum + ws.getD c 0), ans⟩ by simp [stepB, e]), (show stepBW ba ws ⟨3, wk, 0, saw, hand, c, sum, ans⟩ = ws by simp [stepBW, e])]; simp only [handC, takenC]; try simp
theorem HandOk.step {ba : Int} {ws : List Int} {o : OpB} (ho : OkB ws.length o) (hn9 : ¬ o.ph = 9) (hok : HandOk o) (hu : ∀ x ∈ ws, U64 x) (hb : 1 ≤ ba) : HandOk (stepB ba ws o) := by
  by_cases h9 : o.ph = 9
  · exact absurd h9 hn9
  have get : ∀ i, i < ws.length → ∃ x, ws[i]? = some x ∧ U64 x := fun i hi => ⟨ws[i], List.getElem?_eq_getElem hi, hu _ (List.getElem_mem hi)⟩
  obtain ⟨k, wk, ph, saw, hand, c, sum, ans⟩ := o
  dsimp only at h9
  rcases ho with ⟨a, b, hh⟩ | ⟨a, b, hh⟩ | ⟨a, b, hh⟩
  · dsimp only at a b hh
    subst a
    obtain ⟨x, hx, ux⟩ := get _ b
    obtain ⟨y, hy, uy⟩ := get 0 (by omega)
    rcases hh with hh | rfl | ⟨rfl, hz0, hus⟩ | rfl | ⟨rfl, hz0, hus⟩ | rfl
    · exact absurd hh h9
    · by_cases hz : 0 < x
      · rw [(show stepB ba ws ⟨1, wk, 0, saw, hand, c, sum, ans⟩ = ⟨1, wk, 1, x, hand, c, sum, ans⟩ by simp [stepB, hx, hz])]; simp [HandOk]; try (first | omega | (unfold HandOk at hok; simp at hok; omega) | exact hok)
      · rw [(show stepB ba ws ⟨1, wk, 0, saw, hand, c, sum, ans⟩ = ⟨1, wk, 2, saw, hand, c, sum, ans⟩ by simp [stepB, hx, hz])]; simp [HandOk]; try (first | omega | (unfold HandOk at hok; simp at hok; omega) | exact hok)
    · by_cases e : x = saw
      · rw [(show stepB ba ws ⟨1, wk, 1, saw, hand, c, sum, ans⟩ = ⟨1, wk, 9, saw, hand, c, sum, 1⟩ by simp [stepB, hx, e])]; simp [HandOk]; try (first | omega | (unfold HandOk at hok; simp at hok; omega) | exact hok)
      · rw [(show stepB ba ws ⟨1, wk, 1, saw, hand, c, sum, ans⟩ = ⟨1, wk, 0, saw, hand, c, sum, ans⟩ by simp [stepB, hx, e])]; simp [HandOk]; try (first | omega | (unfold HandOk at hok; simp at hok; omega) | exact hok)
    · by_cases hz : 0 < y
      · rw [(show stepB ba ws ⟨1, wk, 2, saw, hand, c, sum, ans⟩ = ⟨1, wk, 3, y, hand, c, sum, ans⟩ by simp [stepB, hy, hz])]; simp [HandOk]; try (first | omega | (unfold HandOk at hok; simp at hok; omega) | exact hok)
      · rw [(show stepB ba ws ⟨1, wk, 2, saw, hand, c, sum, ans⟩ = ⟨1, wk, 9, saw, hand, c, sum, 0⟩ by simp [stepB, hy, hz])]; simp [HandOk]; try (first | omega | (unfold HandOk at hok; simp at hok; omega) | exact hok)
    · by_cases e : y = saw
      · by_cases h1 : min ba saw = 1
        · rw [(show stepB ba ws ⟨1, wk, 3, saw, hand, c, sum, ans⟩ = ⟨1, wk, 9, saw, hand, c, sum, 1⟩ by simp [stepB, hy, e, h1])]; simp [HandOk]; try (first | omega | (unfold HandOk at hok; simp at hok; omega) | exact hok)
        · rw [(show stepB ba ws ⟨1, wk, 3, saw, hand, c, sum, ans⟩ = ⟨1, wk, 4, saw, min ba saw - 1, c, sum, ans⟩ by simp [stepB, hy, e, h1])]; simp [HandOk]; try (first | omega | (unfold HandOk at hok; simp at hok; omega) | exact hok)
      · rw [(show stepB ba ws ⟨1, wk, 3, saw, hand, c, sum, ans⟩ = ⟨1, wk, 2, saw, hand, c, sum, ans⟩ by simp [stepB, hy, e])]; simp [HandOk]; try (first | omega | (unfold HandOk at hok; simp at hok; omega) | exact hok)
    · rw [(show stepB ba ws ⟨1, wk, 4, saw, hand, c, sum, ans⟩ = ⟨1, wk, 9, saw, hand, c, sum, 1⟩ by simp [stepB, hx])]; simp [HandOk]; try (first | omega | (unfold HandOk at hok; simp at hok; omega) | exact hok)
  · dsimp only at a b hh
    subst a
    obtain ⟨x, hx, ux⟩ := get _ b
    obtain ⟨y, hy, uy⟩ := get 0 (by omega)
    rcases hh with hh | rfl | rfl
    · exact absurd hh h9
    · by_cases hz : 0 < x
      · rw [(show stepB ba ws ⟨2, wk, 0, saw, hand, c, sum, ans⟩ = ⟨2, wk, 1, saw, x, c, sum, ans⟩ by simp [stepB, hx, hz])]; simp [HandOk]; try (first | omega | (unfold HandOk at hok; simp at hok; omega) | exact hok)
      · rw [(show stepB ba ws ⟨2, wk, 0, saw, hand, c, sum, ans⟩ = ⟨2, wk, 9, saw, hand, c, sum, 0⟩ by simp [stepB, hx, hz])]; simp [HandOk]; try (first | omega | (unfold HandOk at hok; simp at hok; omega) | exact hok)
    · rw [(show stepB ba ws ⟨2, wk, 1, saw, hand, c, sum, ans⟩ = ⟨2, wk, 9, saw, hand, c, sum, IntKind.i64.wrap hand⟩ by simp [stepB, hy])]; simp [HandOk]; try (first | omega | (unfold HandOk at hok; simp at hok; omega) | exact hok)
  · dsimp only at a b hh
    subst a
    rcases hh with hh | ⟨rfl, hc⟩
    · exact absurd hh h9
    · by_cases e : c + 1 = ws.length
      · rw [(show stepB ba ws ⟨3, wk, 0, saw, hand, c, sum, ans⟩ = ⟨3, wk, 9, saw, hand, c + 1, IntKind.u64.wrap (sum + ws.getD c 0), IntKind.i64.wrap (IntKind.u64.wrap (sum + ws.getD c 0))⟩ by simp [stepB, e])]; simp [HandOk]; try (first | omega | (unfold HandOk at hok; simp at hok; omega) | exact hok)
      · rw [(show stepB ba ws ⟨3, wk, 0, saw, hand, c, sum, ans⟩ = ⟨3, wk, 0, saw, hand, c + 1, IntKind.u64.wrap (sum + ws.getD c 0), ans⟩ by simp [stepB, e])]; simp [HandOk]; try (first | omega | (unfold HandOk at hok; simp at hok; omega) | exact hok)
/-- what the law sees of a step -/
theorem step_cat {ba : Int} {ws : List Int} {o : OpB} (ho : OkB ws.length o) (hn9 : ¬ o.ph = 9) (hu : ∀ x ∈ ws, U64 x) (hb : 1 ≤ ba) (hbt : ba ≤ 1048576) {x0 x1 x2 x3 : Int} {x4 : Bool} (hd : didB ba ws o = (x0, x1, x2, x3, x4)) :
    (o.k = 1 ∧ (x0 == 5) = true ∧ (x1 == 0) = true ∧ x4 = true ∧ ¬ (stepB ba ws o).ph = 9 ∧ IntKind.u64.wrap (x2 - x3) = handC (stepB ba ws o) ∧ 1 ≤ handC (stepB ba ws o) ∧ handC (stepB ba ws o) ≤ ba)
    ∨ (o.k = 1 ∧ (x0 == 5) = true ∧ (x1 == 0) = true ∧ x4 = true ∧ (stepB ba ws o).ph = 9 ∧ IntKind.u64.wrap (x2 - x3) = 1)
    ∨ (o.k = 1 ∧ (x0 == 5) = false ∧ (stepB ba ws o).ph = 9)
    ∨ (o.k = 1 ∧ (x0 == 5) = true ∧ (x1 == 0) = false ∧ (stepB ba ws o).ph = 9)
    ∨ (o.k = 1 ∧ (x0 == 5) = false ∧ ¬ (stepB ba ws o).ph = 9 ∧ handC (stepB ba ws o) = handC o)
    ∨ (o.k = 1 ∧ (x0 == 5) = true ∧ (x1 == 0) = false ∧ ¬ (stepB ba ws o).ph = 9 ∧ handC (stepB ba ws o) = handC o)
    ∨ (o.k = 1 ∧ (x0 == 5) = true ∧ (x1 == 0) = true ∧ x4 = false ∧ ¬ (stepB ba ws o).ph = 9 ∧ handC (stepB ba ws o) = handC o)
    ∨ (o.k = 2 ∧ (x0 == 4) = true ∧ ¬ (stepB ba ws o).ph = 9 ∧ x2 = handC (stepB ba ws o))
    ∨ (o.k = 2 ∧ (x0 == 4) = true ∧ (stepB ba ws o).ph = 9)
    ∨ (o.k = 2 ∧ (x0 == 4) = false ∧ (stepB ba ws o).ph = 9)
    ∨ (o.k = 3 ∧ (stepB ba ws o).ph = 9)
    ∨ (o.k = 3 ∧ ¬ (stepB ba ws o).ph = 9 ∧ handC (stepB ba ws o) = handC o) := by
  by_cases h9 : o.ph = 9
  · exact absurd h9 hn9
  have get : ∀ i, i < ws.length → ∃ x, ws[i]? = some x ∧ U64 x := fun i hi => ⟨ws[i], List.getElem?_eq_getElem hi, hu _ (List.getElem_mem hi)⟩
  obtain ⟨k, wk, ph, saw, hand, c, sum, ans⟩ := o
  dsimp only at h9
  rcases ho with ⟨a, b, hh⟩ | ⟨a, b, hh⟩ | ⟨a, b, hh⟩
  · dsimp only at a b hh
    subst a
    obtain ⟨x, hx, ux⟩ := get _ b
    obtain ⟨y, hy, uy⟩ := get 0 (by omega)
    rcases hh with hh | rfl | ⟨rfl, hz0, hus⟩ | rfl | ⟨rfl, hz0, hus⟩ | rfl
    · exact absurd hh h9
    · by_cases hz : 0 < x
      · rw [(show didB ba ws ⟨1, wk, 0, saw, hand, c, sum, ans⟩ = (1, ((wk + 1 : Nat) : Int), x, x, true) by simp [didB, hx, hz])] at hd; obtain ⟨e0, e1, e2, e3, e4⟩ := five_eq hd; rw [(show stepB ba ws ⟨1, wk, 0, saw, hand, c, sum, ans⟩ = ⟨1, wk, 1, x, hand, c, sum, ans⟩ by simp [stepB, hx, hz]), e0, e1, e2, e3, e4]; exact .inr (.inr (.inr (.inr (.inl ⟨rfl, rfl, by simp, by simp [handC]⟩))))
      · rw [(show didB ba ws ⟨1, wk, 0, saw, hand, c, sum, ans⟩ = (1, ((wk + 1 : Nat) : Int), x, x, true) by simp [didB, hx, hz])] at hd; obtain ⟨e0, e1, e2, e3, e4⟩ := five_eq hd; rw [(show stepB ba ws ⟨1, wk, 0, saw, hand, c, sum, ans⟩ = ⟨1, wk, 2, saw, hand, c, sum, ans⟩ by simp [stepB, hx, hz]), e0, e1, e2, e3, e4]; exact .inr (.inr (.inr (.inr (.inl ⟨rfl, rfl, by simp, by simp [handC]⟩))))
    · by_cases e : x = saw
      · rw [(show didB ba ws ⟨1, wk, 1, saw, hand, c, sum, ans⟩ = (5, ((wk + 1 : Nat) : Int), saw, saw - 1, true) by simp [didB, hx, e])] at hd; obtain ⟨e0, e1, e2, e3, e4⟩ := five_eq hd; rw [(show stepB ba ws ⟨1, wk, 1, saw, hand, c, sum, ans⟩ = ⟨1, wk, 9, saw, hand, c, sum, 1⟩ by simp [stepB, hx, e]), e0, e1, e2, e3, e4]; exact .inr (.inr (.inr (.inl ⟨rfl, rfl, by simp; omega, rfl⟩)))
      · rw [(show didB ba ws ⟨1, wk, 1, saw, hand, c, sum, ans⟩ = (5, ((wk + 1 : Nat) : Int), x, x, false) by simp [didB, hx, e])] at hd; obtain ⟨e0, e1, e2, e3, e4⟩ := five_eq hd; rw [(show stepB ba ws ⟨1, wk, 1, saw, hand, c, sum, ans⟩ = ⟨1, wk, 0, saw, hand, c, sum, ans⟩ by simp [stepB, hx, e]), e0, e1, e2, e3, e4]; exact .inr (.inr (.inr (.inr (.inr (.inl ⟨rfl, rfl, by simp; omega, by simp, by simp [handC]⟩)))))
    · by_cases hz : 0 < y
      · rw [(show didB ba ws ⟨1, wk, 2, saw, hand, c, sum, ans⟩ = (1, 0, y, y, true) by simp [didB, hy, hz])] at hd; obtain ⟨e0, e1, e2, e3, e4⟩ := five_eq hd; rw [(show stepB ba ws ⟨1, wk, 2, saw, hand, c, sum, ans⟩ = ⟨1, wk, 3, y, hand, c, sum, ans⟩ by simp [stepB, hy, hz]), e0, e1, e2, e3, e4]; exact .inr (.inr (.inr (.inr (.inl ⟨rfl, rfl, by simp, by simp [handC]⟩))))
      · rw [(show didB ba ws ⟨1, wk, 2, saw, hand, c, sum, ans⟩ = (1, 0, y, y, true) by simp [didB, hy, hz])] at hd; obtain ⟨e0, e1, e2, e3, e4⟩ := five_eq hd; rw [(show stepB ba ws ⟨1, wk, 2, saw, hand, c, sum, ans⟩ = ⟨1, wk, 9, saw, hand, c, sum, 0⟩ by simp [stepB, hy, hz]), e0, e1, e2, e3, e4]; exact .inr (.inr (.inl ⟨rfl, rfl, rfl⟩))
    · by_cases e : y = saw
      · by_cases h1 : min ba saw = 1
        · rw [(show didB ba ws ⟨1, wk, 3, saw, hand, c, sum, ans⟩ = (5, 0, saw, saw - min ba saw, true) by simp [didB, hy, e, h1])] at hd; obtain ⟨e0, e1, e2, e3, e4⟩ := five_eq hd; rw [(show stepB ba ws ⟨1, wk, 3, saw, hand, c, sum, ans⟩ = ⟨1, wk, 9, saw, hand, c, sum, 1⟩ by simp [stepB, hy, e, h1]), e0, e1, e2, e3, e4]; exact .inr (.inl ⟨rfl, rfl, rfl, rfl, rfl, by rw [show saw - (saw - min ba saw) = min ba saw by omega, h1]; rfl⟩)
        · rw [(show didB ba ws ⟨1, wk, 3, saw, hand, c, sum, ans⟩ = (5, 0, saw, saw - min ba saw, true) by simp [didB, hy, e, h1])] at hd; obtain ⟨e0, e1, e2, e3, e4⟩ := five_eq hd; rw [(show stepB ba ws ⟨1, wk, 3, saw, hand, c, sum, ans⟩ = ⟨1, wk, 4, saw, min ba saw - 1, c, sum, ans⟩ by simp [stepB, hy, e, h1]), e0, e1, e2, e3, e4]; exact .inl ⟨rfl, rfl, rfl, rfl, by simp, by simp [handC]; rw [IntKind.wrap_u64]; omega, by simp [handC]; omega, by simp [handC]; omega⟩
      · rw [(show didB ba ws ⟨1, wk, 3, saw, hand, c, sum, ans⟩ = (5, 0, y, y, false) by simp [didB, hy, e])] at hd; obtain ⟨e0, e1, e2, e3, e4⟩ := five_eq hd; rw [(show stepB ba ws ⟨1, wk, 3, saw, hand, c, sum, ans⟩ = ⟨1, wk, 2, saw, hand, c, sum, ans⟩ by simp [stepB, hy, e]), e0, e1, e2, e3, e4]; exact .inr (.inr (.inr (.inr (.inr (.inr (.inl ⟨rfl, rfl, rfl, rfl, by simp, by simp [handC]⟩))))))
    · rw [(show didB ba ws ⟨1, wk, 4, saw, hand, c, sum, ans⟩ = (3, ((wk + 1 : Nat) : Int), x, IntKind.u64.wrap (x + hand), true) by simp [didB, hx])] at hd; obtain ⟨e0, e1, e2, e3, e4⟩ := five_eq hd; rw [(show stepB ba ws ⟨1, wk, 4, saw, hand, c, sum, ans⟩ = ⟨1, wk, 9, saw, hand, c, sum, 1⟩ by simp [stepB, hx]), e0, e1, e2, e3, e4]; exact .inr (.inr (.inl ⟨rfl, rfl, rfl⟩))
  · dsimp only at a b hh
    subst a
    obtain ⟨x, hx, ux⟩ := get _ b
    obtain ⟨y, hy, uy⟩ := get 0 (by omega)
    rcases hh with hh | rfl | rfl
    · exact absurd hh h9
    · by_cases hz : 0 < x
      · rw [(show didB ba ws ⟨2, wk, 0, saw, hand, c, sum, ans⟩ = (4, ((wk + 1 : Nat) : Int), x, 0, true) by simp [didB, hx, hz])] at hd; obtain ⟨e0, e1, e2, e3, e4⟩ := five_eq hd; rw [(show stepB ba ws ⟨2, wk, 0, saw, hand, c, sum, ans⟩ = ⟨2, wk, 1, saw, x, c, sum, ans⟩ by simp [stepB, hx, hz]), e0, e1, e2, e3, e4]; exact .inr (.inr (.inr (.inr (.inr (.inr (.inr (.inl ⟨rfl, rfl, by simp, by simp [handC]⟩)))))))
      · rw [(show didB ba ws ⟨2, wk, 0, saw, hand, c, sum, ans⟩ = (4, ((wk + 1 : Nat) : Int), x, 0, true) by simp [didB, hx, hz])] at hd; obtain ⟨e0, e1, e2, e3, e4⟩ := five_eq hd; rw [(show stepB ba ws ⟨2, wk, 0, saw, hand, c, sum, ans⟩ = ⟨2, wk, 9, saw, hand, c, sum, 0⟩ by simp [stepB, hx, hz]), e0, e1, e2, e3, e4]; exact .inr (.inr (.inr (.inr (.inr (.inr (.inr (.inr (.inl ⟨rfl, rfl, rfl⟩))))))))
    · rw [(show didB ba ws ⟨2, wk, 1, saw, hand, c, sum, ans⟩ = (3, 0, y, IntKind.u64.wrap (y + hand), true) by simp [didB, hy])] at hd; obtain ⟨e0, e1, e2, e3, e4⟩ := five_eq hd; rw [(show stepB ba ws ⟨2, wk, 1, saw, hand, c, sum, ans⟩ = ⟨2, wk, 9, saw, hand, c, sum, IntKind.i64.wrap hand⟩ by simp [stepB, hy]), e0, e1, e2, e3, e4]; exact .inr (.inr (.inr (.inr (.inr (.inr (.inr (.inr (.inr (.inl ⟨rfl, rfl, rfl⟩)))))))))
  · dsimp only at a b hh
    subst a
    rcases hh with hh | ⟨rfl, hc⟩
    · exact absurd hh h9
    · by_cases e : c + 1 = ws.length
      · rw [(show didB ba ws ⟨3, wk, 0, saw, hand, c, sum, ans⟩ = (1, (c : Int), ws.getD c 0, ws.getD c 0, true) by simp [didB, e])] at hd; obtain ⟨e0, e1, e2, e3, e4⟩ := five_eq hd; rw [(show stepB ba ws ⟨3, wk, 0, saw, hand, c, sum, ans⟩ = ⟨3, wk, 9, saw, hand, c + 1, IntKind.u64.wrap (sum + ws.getD c 0), IntKind.i64.wrap (IntKind.u64.wrap (sum + ws.getD c 0))⟩ by simp [stepB, e]), e0, e1, e2, e3, e4]; exact .inr (.inr (.inr (.inr (.inr (.inr (.inr (.inr (.inr (.inr (.inl ⟨rfl, rfl⟩))))))))))
      · rw [(show didB ba ws ⟨3, wk, 0, saw, hand, c, sum, ans⟩ = (1, (c : Int), ws.getD c 0, ws.getD c 0, true) by simp [didB, e])] at hd; obtain ⟨e0, e1, e2, e3, e4⟩ := five_eq hd; rw [(show stepB ba ws ⟨3, wk, 0, saw, hand, c, sum, ans⟩ = ⟨3, wk, 0, saw, hand, c + 1, IntKind.u64.wrap (sum + ws.getD c 0), ans⟩ by simp [stepB, e]), e0, e1, e2, e3, e4]; exact .inr (.inr (.inr (.inr (.inr (.inr (.inr (.inr (.inr (.inr (.inr (⟨rfl, by simp, by simp [handC]⟩)))))))))))
end Go.Proofs.YteoekkhgpdhnhaaDoor
