/- THE WALKS of the document's own lists: Copy, Words; what the plain calls leave, whoever asks. -/
import Derived.Test.YtddlalljdecdoaaBj
namespace Go.Proofs.Ytddlalljdecdoaa
open Go Go.RowKit

/-- from the head of block g on lie the numbers xs -/
def Lies (w : World) (g : Nat) (xs : List Int) : Prop := ∀ j x, xs[j]? = some x → w.cell? ⟨g, j, none⟩ = some (.int .u64 x)
theorem Row.lies {w : World} {g : Nat} {t : TypeId} {xs : List Int} (h : Row w g t (u64s xs)) : Lies w g xs := fun j x hx => by rw [h.cell, u64s_get, hx]; rfl
theorem own_lies {w : World} {base g n c : Nat} {e : TypeId} {xs : List Int} (h : w.ownsRow base e 1 (.slice (some ⟨g, 0, none⟩) n c) n (u64s xs)) : Lies w g xs := fun j x hx => by
  have := h.cells (g := g) rfl j (.int .u64 x) (by rw [u64s_get, hx]; rfl)
  rwa [add_zero_] at this
theorem Lies.below {w w' : World} {g B : Nat} {xs : List Int} (h : Lies w g xs) (hb : Below B w w') (hg : g < B) : Lies w' g xs := fun j x hx => (hb.cell (p := ⟨g, j, none⟩) hg).trans (h j x hx)
theorem Lies.part {w w' : World} {g : Nat} {S : List Nat} {xs : List Int} (h : Lies w g xs) (hp : Part S w w') (hg : g < w.heap.size) (hS : g ∉ S) : Lies w' g xs :=
  fun j x hx => (World.cell?_of_block (w := w) (a := ⟨g, j, none⟩) (hp.block g hg hS)).trans (h j x hx)

theorem new_one (w : World) (v : Value) (t : TypeId) : ∀ j u, [v][j]? = some u → (w.alloc (.cells #[v] t)).cell? ((⟨w.heap.size, 0, none⟩ : Addr).add j) = some u := by
  intro j u hj
  match j with
  | 0 => simp at hj; subst hj; simp [go_sem]
  | (j + 1) => simp at hj
theorem one_int (k : IntKind) (x : Int) : ∀ u ∈ [Value.int k x], u.oneCell' = true := by intro u hu; simp at hu; subst hu; rfl
theorem u64s_snoc (xs : List Int) (x : Int) : u64s xs ++ [.int .u64 x] = u64s (xs ++ [x]) := by simp [u64s]

def CopyAt (w : World) (xs : List Int) (k : Nat) (v : Value) (wr : World) : Prop := wr.ownsRow w.heap.size 39 1 v k (u64s (xs.take k)) ∧ Below w.heap.size w wr
/-- what Copy leaves -/
def CopiedTo (w : World) (xs : List Int) (e : Ending) (w' : World) : Prop :=
  ∃ g c, e = .returned (.slice (some ⟨g, 0, none⟩) xs.length c) ∧ w.heap.size ≤ g ∧ w'.ownsRow w.heap.size 39 1 (.slice (some ⟨g, 0, none⟩) xs.length c) xs.length (u64s xs) ∧ Below w.heap.size w w'

set_option maxRecDepth 100000 in
set_option maxHeartbeats 800000 in
theorem copy_any {w : World} {g c : Nat} {xs : List Int} (h : Lies w g xs) (hg : g < w.heap.size) (h0 : 0 < xs.length) (hl : xs.length ≤ 1000000) :
    Calls Try.prog 46 #[.slice (some ⟨g, 0, none⟩) xs.length c] w (CopiedTo w xs) := by
  obtain ⟨i0, hi, hz0, hz1, hz2⟩ := info_parts info29
  have H := Lib.hid h
  clear h
  go_enter Try.func46, Try.ntmps46
  go_wp2
  go_loopw [3, 4] (fun v i wr => ∃ k : Nat, k ≤ xs.length ∧ i = .int .i64 k ∧ CopyAt w xs k v wr) (fun _ i _ => xs.length - (intOf i).toNat)
  case atStart => exact ⟨0, Nat.zero_le _, rfl, ⟨by simp, .inl ⟨rfl, rfl⟩⟩, Below.refl _ _⟩
  case round =>
    obtain ⟨k, hk, rfl, hA⟩ := hrel
    have HA := Lib.hid hA
    clear hA
    by_cases hlt : k < xs.length
    · obtain ⟨x, hx⟩ : ∃ x, xs[k]? = some x := ⟨xs[k], List.getElem?_eq_getElem hlt⟩
      have hc := H.out.below HA.out.2 hg k x hx
      have HX := Lib.hid hx
      have hsz := HA.out.2.size
      have hown := HA.out.1
      have HO := Lib.hid hown
      have H3 : Hid (k + 1 ≤ maxLen) := Lib.hid (by unfold maxLen; omega)
      have H4 : Hid ((k + 1) * 8 ≤ 140737488355328) := Lib.hid (by omega)
      have H5 : Hid (w.heap.size ≤ (wr.alloc (.cells #[.int .u64 x] 39)).heap.size) := Lib.hid (by simp; omega)
      clear hx hown
      go_wp2_with (at_builtin; refine wpList_append_own _ rfl _ _ 42 rfl w.heap.size 39 i0 (.int .u64 0) 1 8 Try.underlying42 hi hz0 hz1 hz2 rfl (by decide) _ _ _ rfl (HO.out.alloc _) ⟨wr.heap.size, 0, none⟩ 1 1 [.int .u64 x] rfl rfl (new_one _ _ _) (one_int _ _) H3.out H4.out H5.out ?_; intro v' w1 hown1 hgr1 _; have HO1 := Lib.hid hown1; have HG1 := Lib.hid hgr1; clear hown1 hgr1)
      go_roundw
      case rel => exact ⟨k + 1, by omega, by go_num, by have := HO1.out; rwa [u64s_snoc, show xs.take k ++ [x] = xs.take (k + 1) by rw [List.take_add_one, HX.out]; rfl] at this, (HA.out.2.alloc hsz _).grown HG1.out (by simp; omega) (own_from HO.out)⟩
      case measure => simp [intOf]; omega
    · obtain rfl : k = xs.length := by omega
      go_wp2
      go_ret
      obtain ⟨h1, h2⟩ := HA.out
      rw [List.take_length] at h1
      obtain ⟨g', c', rfl, hb, _⟩ := own_some h1 h0
      exact ⟨g', c', rfl, hb, h1, h2⟩

set_option maxRecDepth 100000 in
theorem same_yes {w : World} {g g' c c' m m' : Nat} {xs : List Int} (h : Lies w g xs) (h' : Lies w g' xs) (hl : xs.length ≤ 1000000) (hm : xs.length = m) (hm' : xs.length = m') :
    Calls Try.prog 20 #[.slice (some ⟨g, 0, none⟩) m c, .slice (some ⟨g', 0, none⟩) m' c'] w fun e w' => e = .returned (.bool true) ∧ Below w.heap.size w w' := by
  subst hm
  subst hm'
  have H := Lib.hid h
  have H' := Lib.hid h'
  clear h h'
  go_enter Try.func20, Try.ntmps20
  go_wp2
  go_loopw [5] (fun i wr => ∃ k : Nat, k ≤ xs.length ∧ i = .int .i64 k ∧ Below w.heap.size w wr ∧ Lies wr g xs ∧ Lies wr g' xs) (fun i _ => xs.length - (intOf i).toNat)
  case atStart => exact ⟨0, Nat.zero_le _, rfl, Below.refl _ _, H.out, H'.out⟩
  case round =>
    obtain ⟨k, hk, rfl, hb, h1, h2⟩ := hrel
    by_cases hlt : k < xs.length
    · obtain ⟨x, hx⟩ : ∃ x, xs[k]? = some x := ⟨xs[k], List.getElem?_eq_getElem hlt⟩
      have hc := h1 k x hx
      have hc' := h2 k x hx
      have hlt' : (k : Int) < (xs.length : Int) := by omega
      have hxx : ((x : Int) != x) = false := by simp
      have HB := Lib.hid hb
      have H1 := Lib.hid h1
      have H2 := Lib.hid h2
      clear hx hb h1 h2
      go_wp2
      go_quiet (fail)
      go_wp2
      go_roundw
      case rel => exact ⟨k + 1, by omega, by go_num, ⟨HB.out.os, HB.out.tape, HB.out.output, HB.out.size, HB.out.block⟩, H1.out, H2.out⟩
      case measure => simp [intOf]; omega
    · obtain rfl : k = xs.length := by omega
      have HB := Lib.hid hb
      clear hb h1 h2
      go_wp2
      go_ret
      exact ⟨rfl, HB.out⟩

theorem runB_add (ba : Int) (m d : Nat) (s : List Int × OpB) : runB ba (m + d) s = runB ba d (runB ba m s) := by
  induction m generalizing s with
  | zero => rw [Nat.zero_add]; rfl
  | succ m ih => rw [show m + 1 + d = (m + d) + 1 by omega]; exact ih _
theorem runB_next (ba : Int) (m : Nat) (s : List Int × OpB) : runB ba (m + 1) s = (stepBW ba (runB ba m s).1 (runB ba m s).2, stepB ba (runB ba m s).1 (runB ba m s).2) := by
  rw [runB_add]; rfl
theorem runB_past {ba : Int} {m d : Nat} {s : List Int × OpB} (h : (runB ba m s).2.ph = 9) (hd : m ≤ d) : runB ba d s = runB ba m s := by
  obtain ⟨e, rfl⟩ := Nat.le.dest hd
  rw [runB_add]
  exact runB_over h e
/-- a take answers 1 or 0 -/
theorem stepB_ans {ba : Int} {ws : List Int} {o : OpB} (h : o.k = 1) (ha : o.ans = 0 ∨ o.ans = 1) : (stepB ba ws o).k = 1 ∧ ((stepB ba ws o).ans = 0 ∨ (stepB ba ws o).ans = 1) := by
  unfold stepB
  repeat' split
  all_goals simp_all
theorem runB_ans {ba : Int} (m : Nat) : ∀ (ws : List Int) (o : OpB), o.k = 1 → (o.ans = 0 ∨ o.ans = 1) → ((runB ba m (ws, o)).2.ans = 0 ∨ (runB ba m (ws, o)).2.ans = 1) := by
  induction m with
  | zero => intro ws o _ ha; exact ha
  | succ m ih =>
    intro ws o h ha
    have h1 := stepB_ans (ba := ba) (ws := ws) h ha
    exact ih _ _ h1.1 h1.2
theorem ansB_take (ba : Int) (ws : List Int) (wk : Nat) : ansB ba ws 1 wk = 0 ∨ ansB ba ws 1 wk = 1 := runB_ans _ _ _ rfl (.inl rfl)
/-- what the cells have behind a Take, whoever asks -/
def takeW (ba : Int) (n : Nat) (ws : List Int) (t : Int) : List Int := if rightB n 1 t = true then (wholeB ba ws 1 t.toNat).1 else ws
theorem takeW_length (ba : Int) (n : Nat) (ws : List Int) (t : Int) : (takeW ba n ws t).length = ws.length := by
  unfold takeW
  split
  · exact wholeB_length _ _ _ _
  · rfl
theorem btake_any {w : World} {bq bk bw n : Nat} {ba : Int} {ws : List Int} (h : QuoM w bq bk bw ba ws) (hn : ws.length = n + 1) (t : Int) :
    Calls Try.prog 22 #[.pointer (some ⟨bq, 0, none⟩), .int .i64 t] w fun e w' => (∃ b y, e = .returned (.tuple #[.bool b, .int .i64 y])) ∧ QuoM w' bq bk bw ba (takeW ba n ws t) ∧ Part [bw] w w' := by
  by_cases hr : rightB n 1 t = true
  · obtain ⟨wk, rfl, hf⟩ := right_cases hr
    have hw : wk < n := by
      rcases hf with ⟨_, h⟩ | ⟨h, _⟩ | ⟨h, _⟩
      · exact h
      · omega
      · omega
    rw [takeW, if_pos hr]
    refine (btake_yes h hn hw).mono ?_
    rintro e w' ⟨rfl, hq, hp⟩
    exact ⟨⟨_, _, rfl⟩, by simpa using hq, hp⟩
  · rw [takeW, if_neg hr]
    refine (btake_no h hn (by simpa using hr)).mono ?_
    rintro e w' ⟨rfl, hb⟩
    exact ⟨⟨_, _, rfl⟩, h.on hb, Part.of_below hb (Nat.le_refl _) _⟩
theorem not_sing {b b' : Nat} (h : b ≠ b') : b ∉ [b'] := fun e => h (List.mem_singleton.1 e)
/-- another quota stays -/
theorem QuoM.other {w w' : World} {bq bk bw bq' bk' bw' : Nat} {ba ba' : Int} {ws ws' : List Int} (h : QuoM w bq bk bw ba ws) (h' : QuoM w bq' bk' bw' ba' ws') (hne : bw ≠ bw') (hp : Part [bw'] w w') : QuoM w' bq bk bw ba ws :=
  h.part hp (not_sing (h.head.ne h'.words.row (by decide))) (not_sing (h.words.head.ne h'.words.row (by decide))) (not_sing hne)
/-- what is no word stays -/
theorem Row.quo {w w' : World} {bq bk bw b : Nat} {ba : Int} {ws : List Int} {t : TypeId} {l : List Value} (h : Row w b t l) (hq : QuoM w bq bk bw ba ws) (ht : t ≠ 87) (hp : Part [bw] w w') : Row w' b t l := h.part hp (not_sing (h.ne hq.words.row ht))
end Go.Proofs.Ytddlalljdecdoaa
