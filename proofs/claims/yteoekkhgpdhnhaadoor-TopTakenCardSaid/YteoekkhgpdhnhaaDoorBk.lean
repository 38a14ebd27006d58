/- THE WALKS of the document's own lists: Copy, Words; what the plain calls leave, whoever asks. -/
import Derived.Test.YteoekkhgpdhnhaaDoorBj
namespace Go.Proofs.YteoekkhgpdhnhaaDoor
open Go Go.RowKit

/-- from the head of block g on lie the numbers xs -/
def Lies (w : World) (g : Nat) (xs : List Int) : Prop := ∀ j x, xs[j]? = some x → w.cell? ⟨g, j, none⟩ = some (.int .u64 x)
theorem Row.lies {w : World} {g : Nat} {t : TypeId} {xs : List Int} (h : Row w g t (u64s xs)) : Lies w g xs := fun j x hx => by rw [h.cell, u64s_get, hx]; rfl
theorem own_lies {w : World} {base g n c : Nat} {e : TypeId} {xs : List Int} (h : w.ownsRow base e 1 (.slice (some ⟨g, 0, none⟩) n c) n (u64s xs)) : Lies w g xs := fun j x hx => by
  have := h.cells (g := g) rfl j (.int .u64 x) (by rw [u64s_get, hx]; rfl)
  rwa [add_zero_] at this
theorem Lies.below {w w' : World} {g B : Nat} {xs : List Int} (h : Lies w g xs) (hb : Below B w w') (hg : g < B) : Lies w' g xs := fun j x hx => (hb.cell (p := ⟨g, j, none⟩) hg).trans (h j x hx)
theorem Lies.part {w w' : World} {g : Nat} {S : List Nat} {xs : List Int} (h : Lies w g xs) (hp : Part S w w') (hg : g < w.heap.size) (hS : g ∉ S) : Lies w' g xs :=
  fun j x hx => (World.cell?_of_block (w := w) (a := ⟨g, j, none⟩) (hp.block g hg hS)).trans (h j x hx)

theorem new_one (w : World) (v : Value) (t : TypeId) : ∀ j u, [v][j]? = some u → (w.alloc (.cells #[v] t)).cell? ((⟨w.heap.size, 0, none⟩ : Addr).add j) = some u := by
  intro j u hj
  match j with
  | 0 => simp at hj; subst hj; simp [go_sem]
  | (j + 1) => simp at hj
theorem one_int (k : IntKind) (x : Int) : ∀ u ∈ [Value.int k x], u.oneCell' = true := by intro u hu; simp at hu; subst hu; rfl
theorem u64s_snoc (xs : List Int) (x : Int) : u64s xs ++ [.int .u64 x] = u64s (xs ++ [x]) := by simp [u64s]

def CopyAt (w : World) (xs : List Int) (k : Nat) (v : Value) (wr : World) : Prop := wr.ownsRow w.heap.size 37 1 v k (u64s (xs.take k)) ∧ Below w.heap.size w wr
/-- what Copy leaves -/
def CopiedTo (w : World) (xs : List Int) (e : Ending) (w' : World) : Prop :=
  ∃ g c, e = .returned (.slice (some ⟨g, 0, none⟩) xs.length c) ∧ w.heap.size ≤ g ∧ w'.ownsRow w.heap.size 37 1 (.slice (some ⟨g, 0, none⟩) xs.length c) xs.length (u64s xs) ∧ Below w.heap.size w w'

theorem runB_add (ba : Int) (m d : Nat) (s : List Int × OpB) : runB ba (m + d) s = runB ba d (runB ba m s) := by
  induction m generalizing s with
  | zero => rw [Nat.zero_add]; rfl
  | succ m ih => rw [show m + 1 + d = (m + d) + 1 by omega]; exact ih _
theorem runB_next (ba : Int) (m : Nat) (s : List Int × OpB) : runB ba (m + 1) s = (stepBW ba (runB ba m s).1 (runB ba m s).2, stepB ba (runB ba m s).1 (runB ba m s).2) := by
  rw [runB_add]; rfl
theorem runB_past {ba : Int} {m d : Nat} {s : List Int × OpB} (h : (runB ba m s).2.ph = 9) (hd : m ≤ d) : runB ba d s = runB ba m s := by
  obtain ⟨e, rfl⟩ := Nat.le.dest hd
  rw [runB_add]
  exact runB_over h e
/-- a take answers 1 or 0 -/
theorem stepB_ans {ba : Int} {ws : List Int} {o : OpB} (h : o.k = 1) (ha : o.ans = 0 ∨ o.ans = 1) : (stepB ba ws o).k = 1 ∧ ((stepB ba ws o).ans = 0 ∨ (stepB ba ws o).ans = 1) := by
  unfold stepB
  repeat' split
  all_goals simp_all
theorem runB_ans {ba : Int} (m : Nat) : ∀ (ws : List Int) (o : OpB), o.k = 1 → (o.ans = 0 ∨ o.ans = 1) → ((runB ba m (ws, o)).2.ans = 0 ∨ (runB ba m (ws, o)).2.ans = 1) := by
  induction m with
  | zero => intro ws o _ ha; exact ha
  | succ m ih =>
    intro ws o h ha
    have h1 := stepB_ans (ba := ba) (ws := ws) h ha
    exact ih _ _ h1.1 h1.2
theorem ansB_take (ba : Int) (ws : List Int) (wk : Nat) : ansB ba ws 1 wk = 0 ∨ ansB ba ws 1 wk = 1 := runB_ans _ _ _ rfl (.inl rfl)
/-- what the cells have behind a Take, whoever asks -/
def takeW (ba : Int) (n : Nat) (ws : List Int) (t : Int) : List Int := if rightB n 1 t = true then (wholeB ba ws 1 t.toNat).1 else ws
theorem takeW_length (ba : Int) (n : Nat) (ws : List Int) (t : Int) : (takeW ba n ws t).length = ws.length := by
  unfold takeW
  split
  · exact wholeB_length _ _ _ _
  · rfl
theorem not_sing {b b' : Nat} (h : b ≠ b') : b ∉ [b'] := fun e => h (List.mem_singleton.1 e)
/-- another quota stays -/
theorem QuoM.other {w w' : World} {bq bk bw bq' bk' bw' : Nat} {ba ba' : Int} {ws ws' : List Int} (h : QuoM w bq bk bw ba ws) (h' : QuoM w bq' bk' bw' ba' ws') (hne : bw ≠ bw') (hp : Part [bw'] w w') : QuoM w' bq bk bw ba ws :=
  h.part hp (not_sing (h.head.ne h'.words.row (by decide))) (not_sing (h.words.head.ne h'.words.row (by decide))) (not_sing hne)
/-- what is no word stays -/
theorem Row.quo {w w' : World} {bq bk bw b : Nat} {ba : Int} {ws : List Int} {t : TypeId} {l : List Value} (h : Row w b t l) (hq : QuoM w bq bk bw ba ws) (ht : t ≠ 146) (hp : Part [bw] w w') : Row w' b t l := h.part hp (not_sing (h.ne hq.words.row ht))
end Go.Proofs.YteoekkhgpdhnhaaDoor
