/- THE WALKS of package hist: Start and the document's Right of every kind. -/
import Derived.Test.YtiifhkfkcljoiaaJp
import Derived.Test.YtiifhkfkcljoiaaJt
import Derived.Test.YtiifhkfkcljoiaaIp
import Derived.Deep.RegionLaw
import Derived.Deep.AppendLies
import Derived.Laws.MakeOwn
namespace Go.Proofs.Ytiifhkfkcljoiaa
open Go Go.RowKit
set_option maxRecDepth 100000
set_option maxHeartbeats 1600000
theorem right_rec {h v n : Int} : rightO h 1 v n = (decide (0 ≤ v) && decide (v ≤ h) && n != 0) := by simp [rightO]
theorem right_show {h v n : Int} : rightO h 2 v n = (v == 0 && n == 0) := by simp [rightO]
theorem right_kind {h k v n : Int} (h1 : k ≠ 1) (h2 : k ≠ 2) : rightO h k v n = false := by simp [rightO, h1, h2]
theorem right_of_rec {h v n : Int} (hR : rightO h 1 v n = true) : 0 ≤ v ∧ v ≤ h ∧ n ≠ 0 := by
  rw [right_rec] at hR
  simp only [Bool.and_eq_true, decide_eq_true_eq, bne_iff_ne, ne_eq] at hR
  exact ⟨hR.1.1, hR.1.2, hR.2⟩
theorem right_of_show {h v n : Int} (hR : rightO h 2 v n = true) : v = 0 ∧ n = 0 := by
  rw [right_show] at hR
  simpa using hR
section
variable {w : World} {bh bk bw m : Nat} {l h d k v n : Int} {ws : List Int}
theorem hstart_yes (hs : HistM w bh bk bw l h d m ws) (r : Sc.rightB l h d = true) (hR : rightO h k v n = true) : Calls Try.prog 13 #[.pointer (some ⟨bh, 0, none⟩), .agg #[.int .u8 k, .int .i64 v, .int .u64 n]] w (BegunH w bh m (opH l d k v n)) := by
  by_cases h1 : k = 1
  · subst h1
    obtain ⟨a, b, c⟩ := right_of_rec hR
    exact hstart_rec hs r a b c
  · by_cases h2 : k = 2
    · subst h2
      obtain ⟨rfl, rfl⟩ := right_of_show hR
      exact hstart_show hs
    · rw [right_kind h1 h2] at hR
      cases hR
theorem hstart_no (hs : HistM w bh bk bw l h d m ws) (r : Sc.rightB l h d = true) (hR : rightO h k v n = false) : Calls Try.prog 13 #[.pointer (some ⟨bh, 0, none⟩), .agg #[.int .u8 k, .int .i64 v, .int .u64 n]] w fun e w' => e = .returned (.tuple #[.pointer none, .int .i64 2]) ∧ Below w.heap.size w w' := by
  by_cases h1 : k = 1
  · subst h1
    by_cases a : 0 ≤ v ∧ v ≤ h
    · by_cases c : n = 0
      · exact hstart_rec_none hs r a.1 a.2 c
      · rw [right_rec] at hR
        simp [a.1, a.2, c] at hR
    · exact hstart_rec_out hs r (by omega)
  · by_cases h2 : k = 2
    · subst h2
      by_cases a : v = 0 ∧ n = 0
      · rw [right_show] at hR
        simp [a.1, a.2] at hR
      · exact hstart_show_no (by omega)
    · exact hstart_kind h1 h2
theorem dright_any (hn : 0 ≤ n) (w : World) : Calls Try.prog 14 #[.agg #[.int .i64 l, .int .i64 h, .int .i64 d], .agg #[.int .u8 k, .int .i64 v, .int .u64 n]] w fun e w' => e = .returned (.bool (rightO h k v n)) ∧ Below w.heap.size w w' := by
  by_cases h1 : k = 1
  · subst h1
    have e : rightO h 1 v n = okV h v n := by
      rw [right_rec]
      unfold okV
      by_cases a : 0 ≤ v <;> by_cases b : v ≤ h <;> by_cases c : n = 0 <;> simp [a, b, c]
    rw [e]
    exact dright_rec hn w
  · have HB0 := Lib.hid (show Below w.heap.size w ((w.alloc (.cells #[.int .i64 l, .int .i64 h, .int .i64 d] 23)).alloc (.cells #[.int .u8 k, .int .i64 v, .int .u64 n] 40)) from ((Below.refl w.heap.size w).alloc (Nat.le_refl _) _).alloc (by simp) _)
    by_cases h2 : k = 2
    · subst h2
      by_cases a : v = 0
      · subst a
        have E := Lib.hid (show rightO h 2 0 n = (n == 0) by rw [right_show]; simp)
        go_enter Try.func14, Try.ntmps14
        go_wp2
        go_ret
        exact ⟨by rw [E.out]; first | done | rfl, HB0.out⟩
      · have E := Lib.hid (show rightO h 2 v n = false by rw [right_show]; simp [a])
        go_enter Try.func14, Try.ntmps14
        go_wp2
        go_ret
        exact ⟨by rw [E.out]; first | done | rfl, HB0.out⟩
    · have E := Lib.hid (right_kind (h := h) (v := v) (n := n) h1 h2)
      go_enter Try.func14, Try.ntmps14
      go_wp2
      go_ret
      exact ⟨by rw [E.out]; first | done | rfl, HB0.out⟩
theorem op_ok (r : Sc.rightB l h d = true) (hR : rightO h k v n = true) : OkH (Sc.cnt l h d) (opH l d k v n) := by
  unfold opH
  by_cases h1 : k = 1
  · subst h1
    rw [if_pos rfl]
    obtain ⟨a, b, c⟩ := right_of_rec hR
    exact ok_new r a b
  · rw [if_neg h1]
    intro e
    simp [newS] at e
/-- what a step never turns of an operation -/
def FixH (l h d : Int) (o : OpH) : Prop := (o.k = 1 ∨ o.k = 2) ∧ (o.k = 1 → 0 ≤ o.v ∧ o.v ≤ h ∧ o.i = ixH l d o.v)
theorem FixH.new (hR : rightO h k v n = true) : FixH l h d (opH l d k v n) := by
  unfold opH
  by_cases h1 : k = 1
  · subst h1
    rw [if_pos rfl]
    obtain ⟨a, b, c⟩ := right_of_rec hR
    exact ⟨.inl rfl, fun _ => ⟨a, b, rfl⟩⟩
  · rw [if_neg h1]
    exact ⟨.inr rfl, fun e => by simp [newS] at e⟩
theorem step_same (m : Nat) (ws : List Int) (o : OpH) : (stepH m ws o).k = o.k ∧ (stepH m ws o).v = o.v ∧ (stepH m ws o).n = o.n ∧ (stepH m ws o).i = o.i := by
  unfold stepH
  repeat (first | exact ⟨rfl, rfl, rfl, rfl⟩ | split)
theorem FixH.step {o : OpH} (hF : FixH l h d o) : FixH l h d (stepH m ws o) := by
  obtain ⟨a, b, _, c⟩ := step_same m ws o
  unfold FixH
  rw [a, b, c]
  exact hF
end
/-- what the document's record has besides: the word it saw, its buckets -/
abbrev DocD := Int × Option Addr × Nat
def undL (o : OpH) (s : DocD) : List Value := (undU o s.1 s.2.1 s.2.2).toList
/-- the cells of the document's own list -/
def undCells (us : List (OpH × DocD)) : List Value := us.flatMap fun p => undL p.1 p.2
theorem undL_length (o : OpH) (s : DocD) : (undL o s).length = 12 := rfl
theorem undCells_snoc (us : List (OpH × DocD)) (o : OpH) (s : DocD) : undCells us ++ undL o s = undCells (us ++ [(o, s)]) := by simp [undCells]
theorem undCells_get {us : List (OpH × DocD)} : ∀ {q : Nat} {p : OpH × DocD}, us[q]? = some p → ∀ j, j < 12 → (undCells us)[q * 12 + j]? = (undL p.1 p.2)[j]? := by
  induction us with
  | nil => intro q p h; simp at h
  | cons a us ih =>
    intro q p h j hj
    have e : undCells (a :: us) = undL a.1 a.2 ++ undCells us := rfl
    rw [e]
    cases q with
    | zero => simp at h; subst h; rw [List.getElem?_append_left (by rw [undL_length]; omega)]; simp
    | succ q =>
      simp at h
      rw [List.getElem?_append_right (by rw [undL_length]; omega), undL_length]
      have e1 : (q + 1) * 12 + j - 12 = q * 12 + j := by omega
      rw [e1]
      exact ih h j hj
theorem app_set {a l : List Value} {m : Nat} {v : Value} (ha : a.length = 12) : (a ++ l).set (m + 12) v = a ++ l.set m v := by
  rw [List.set_append, if_neg (by omega)]
  congr 2
  omega
theorem undCells_set {us : List (OpH × DocD)} {o : OpH} {s : DocD} : ∀ {q : Nat} {p : OpH × DocD}, us[q]? = some p →
    (((((((((((((undCells us).set (q * 12) (.int .u8 o.k)).set (q * 12 + 1) (.int .i64 o.v)).set (q * 12 + 2) (.int .u64 o.n)).set (q * 12 + 3) (.int .i64 (o.at_ : Int))).set (q * 12 + 4) (.bool o.ld)).set (q * 12 + 5) (.int .u64 s.1)).set (q * 12 + 6) (.bool o.en)).set (q * 12 + 7) (.int .u64 o.c)).set (q * 12 + 8) (.int .u64 o.su)).set (q * 12 + 9) (.int .i64 o.le)).set (q * 12 + 10) (.int .i64 o.gr)).set (q * 12 + 11) (.slice s.2.1 o.bu.length s.2.2)) = undCells (us.set q (o, s)) := by
  induction us with
  | nil => intro q p h; simp at h
  | cons a us ih =>
    intro q p h
    have e : undCells (a :: us) = undL a.1 a.2 ++ undCells us := rfl
    rw [e]
    cases q with
    | zero => simp at h; subst h; simp [undCells, undL, undU]
    | succ q =>
      simp at h
      have e0 : (q + 1) * 12 = q * 12 + 12 := by omega
      have e1 : (q + 1) * 12 + 1 = q * 12 + 1 + 12 := by omega
      have e2 : (q + 1) * 12 + 2 = q * 12 + 2 + 12 := by omega
      have e3 : (q + 1) * 12 + 3 = q * 12 + 3 + 12 := by omega
      have e4 : (q + 1) * 12 + 4 = q * 12 + 4 + 12 := by omega
      have e5 : (q + 1) * 12 + 5 = q * 12 + 5 + 12 := by omega
      have e6 : (q + 1) * 12 + 6 = q * 12 + 6 + 12 := by omega
      have e7 : (q + 1) * 12 + 7 = q * 12 + 7 + 12 := by omega
      have e8 : (q + 1) * 12 + 8 = q * 12 + 8 + 12 := by omega
      have e9 : (q + 1) * 12 + 9 = q * 12 + 9 + 12 := by omega
      have e10 : (q + 1) * 12 + 10 = q * 12 + 10 + 12 := by omega
      have e11 : (q + 1) * 12 + 11 = q * 12 + 11 + 12 := by omega
      rw [e11, e10, e9, e8, e7, e6, e5, e4, e3, e2, e1, e0, app_set (undL_length a.1 a.2), app_set (undL_length a.1 a.2), app_set (undL_length a.1 a.2), app_set (undL_length a.1 a.2), app_set (undL_length a.1 a.2), app_set (undL_length a.1 a.2), app_set (undL_length a.1 a.2), app_set (undL_length a.1 a.2), app_set (undL_length a.1 a.2), app_set (undL_length a.1 a.2), app_set (undL_length a.1 a.2), app_set (undL_length a.1 a.2)]
      rw [ih h]
      rfl
theorem und_one (o : OpH) (s : DocD) : ∀ u ∈ undL o s, u.oneCell' = true := by
  intro u hu
  simp [undL, undU] at hu
  rcases hu with rfl | rfl | rfl | rfl | rfl | rfl | rfl | rfl | rfl | rfl | rfl | rfl <;> rfl
theorem infoUN : (Try.prog.info? 46).map (fun i => (i.zero, i.size, i.bytes)) = some (some (.agg #[.int .u8 0, .int .i64 0, .int .u64 0, .int .i64 0, .bool false, .int .u64 0, .bool false, .int .u64 0, .int .u64 0, .int .i64 0, .int .i64 0, .slice none 0 0]), 12, 112) := by kernel_rfl
/-- twelve stores -/
def undSet (w : World) (g i : Nat) (o : OpH) (s : DocD) : World := ((((((((((((w.setCell ⟨g, i, none⟩ (.int .u8 o.k)).setCell ⟨g, i + 1, none⟩ (.int .i64 o.v)).setCell ⟨g, i + 2, none⟩ (.int .u64 o.n)).setCell ⟨g, i + 3, none⟩ (.int .i64 (o.at_ : Int))).setCell ⟨g, i + 4, none⟩ (.bool o.ld)).setCell ⟨g, i + 5, none⟩ (.int .u64 s.1)).setCell ⟨g, i + 6, none⟩ (.bool o.en)).setCell ⟨g, i + 7, none⟩ (.int .u64 o.c)).setCell ⟨g, i + 8, none⟩ (.int .u64 o.su)).setCell ⟨g, i + 9, none⟩ (.int .i64 o.le)).setCell ⟨g, i + 10, none⟩ (.int .i64 o.gr)).setCell ⟨g, i + 11, none⟩ (.slice s.2.1 o.bu.length s.2.2))
section
variable {w : World} {base g n c q : Nat} {us : List (OpH × DocD)} {o : OpH} {s : DocD}
theorem und_cells (h : w.ownsRow base 46 12 (.slice (some ⟨g, 0, none⟩) n c) n (undCells us)) (hp : us[q]? = some (o, s)) :
    w.cell? ⟨g, q * 12, none⟩ = some (.int .u8 o.k) ∧ w.cell? ⟨g, q * 12 + 1, none⟩ = some (.int .i64 o.v) ∧ w.cell? ⟨g, q * 12 + 2, none⟩ = some (.int .u64 o.n) ∧ w.cell? ⟨g, q * 12 + 3, none⟩ = some (.int .i64 (o.at_ : Int)) ∧ w.cell? ⟨g, q * 12 + 4, none⟩ = some (.bool o.ld) ∧ w.cell? ⟨g, q * 12 + 5, none⟩ = some (.int .u64 s.1) ∧ w.cell? ⟨g, q * 12 + 6, none⟩ = some (.bool o.en) ∧ w.cell? ⟨g, q * 12 + 7, none⟩ = some (.int .u64 o.c) ∧ w.cell? ⟨g, q * 12 + 8, none⟩ = some (.int .u64 o.su) ∧ w.cell? ⟨g, q * 12 + 9, none⟩ = some (.int .i64 o.le) ∧ w.cell? ⟨g, q * 12 + 10, none⟩ = some (.int .i64 o.gr) ∧ w.cell? ⟨g, q * 12 + 11, none⟩ = some (.slice s.2.1 o.bu.length s.2.2) :=
  ⟨by simpa using own_cell h ((undCells_get hp 0 (by omega)).trans rfl), own_cell h ((undCells_get hp 1 (by omega)).trans rfl), own_cell h ((undCells_get hp 2 (by omega)).trans rfl), own_cell h ((undCells_get hp 3 (by omega)).trans rfl), own_cell h ((undCells_get hp 4 (by omega)).trans rfl), own_cell h ((undCells_get hp 5 (by omega)).trans rfl), own_cell h ((undCells_get hp 6 (by omega)).trans rfl), own_cell h ((undCells_get hp 7 (by omega)).trans rfl), own_cell h ((undCells_get hp 8 (by omega)).trans rfl), own_cell h ((undCells_get hp 9 (by omega)).trans rfl), own_cell h ((undCells_get hp 10 (by omega)).trans rfl), own_cell h ((undCells_get hp 11 (by omega)).trans rfl)⟩
theorem und_stored {p : OpH × DocD} (h : w.ownsRow base 46 12 (.slice (some ⟨g, 0, none⟩) n c) n (undCells us)) (hp : us[q]? = some p) :
    (undSet w g (q * 12) o s).ownsRow base 46 12 (.slice (some ⟨g, 0, none⟩) n c) n (undCells (us.set q (o, s))) := by
  have h0 := (h.stored (q * 12) (.int .u8 o.k)).1
  have h1 := (h0.stored (q * 12 + 1) (.int .i64 o.v)).1
  have h2 := (h1.stored (q * 12 + 2) (.int .u64 o.n)).1
  have h3 := (h2.stored (q * 12 + 3) (.int .i64 (o.at_ : Int))).1
  have h4 := (h3.stored (q * 12 + 4) (.bool o.ld)).1
  have h5 := (h4.stored (q * 12 + 5) (.int .u64 s.1)).1
  have h6 := (h5.stored (q * 12 + 6) (.bool o.en)).1
  have h7 := (h6.stored (q * 12 + 7) (.int .u64 o.c)).1
  have h8 := (h7.stored (q * 12 + 8) (.int .u64 o.su)).1
  have h9 := (h8.stored (q * 12 + 9) (.int .i64 o.le)).1
  have h10 := (h9.stored (q * 12 + 10) (.int .i64 o.gr)).1
  have h11 := (h10.stored (q * 12 + 11) (.slice s.2.1 o.bu.length s.2.2)).1
  rw [undCells_set hp] at h11
  exact h11
theorem und_part (w : World) (g i : Nat) (o : OpH) (s : DocD) : Part [g] w (undSet w g i o s) :=
  ((((((((((((Part.refl [g] w).set (by simp) (.int .u8 o.k)).set (by simp) (.int .i64 o.v)).set (by simp) (.int .u64 o.n)).set (by simp) (.int .i64 (o.at_ : Int))).set (by simp) (.bool o.ld)).set (by simp) (.int .u64 s.1)).set (by simp) (.bool o.en)).set (by simp) (.int .u64 o.c)).set (by simp) (.int .u64 o.su)).set (by simp) (.int .i64 o.le)).set (by simp) (.int .i64 o.gr)).set (by simp) (.slice s.2.1 o.bu.length s.2.2)
end
theorem Ext.parted {w w' : World} {S : List Nat} {A : Option Addr} {xs : List Int} (h : Ext .u64 w A xs) (hP : Part S w w') (hS : ∀ a, A = some a → a.block ∉ S) : Ext .u64 w' A xs := fun j x hx => by
  obtain ⟨b, o, e, hl, hc⟩ := h j x hx
  have hne := hS _ e
  refine ⟨b, o, e, Nat.lt_of_lt_of_le hl hP.size, ?_⟩
  unfold World.cell? at hc ⊢
  rw [hP.block b hl hne]
  exact hc
/-- a list of the document's lies in no block that an operation turns, nor in its own list of operations -/
def ClearH (bs : List Nat) (bw : Nat) (vo : Option Nat) (xs : List (Value × ShM)) (H : Nat) (A : Option Addr) : Prop := ∀ a, A = some a → a.block < H ∧ a.block ∉ bs ∧ a.block ≠ bw ∧ vo ≠ some a.block ∧ ∀ x, x ∈ xs → x.2.bv.ownBlock ≠ some a.block
/-- the document's side: its cells, its operations -/
structure DocH (W : World) (n : Nat) (bs : List Nat) (bw : Nat) (xs : List (Value × ShM)) (l h d : Int) (A : Option Addr) (ws : List Int) (us : List (OpH × DocD)) (vu : Value) (wr : World) : Prop where
  und : wr.ownsRow W.heap.size 46 12 vu n (undCells us)
  len : us.length = n
  cells : Ext .u64 wr A ws
  ac : ClearH bs bw vu.ownBlock xs wr.heap.size A
  bu : ∀ p, p ∈ us → Ext .u64 wr p.2.2.1 p.1.bu ∧ ClearH bs bw vu.ownBlock xs wr.heap.size p.2.2.1
  saw : ∀ p, p ∈ us → (p.1.ld = true → p.2.1 = p.1.saw) ∧ FixH l h d p.1
theorem ClearH.lt {bs : List Nat} {bw H : Nat} {vo : Option Nat} {xs : List (Value × ShM)} {A : Option Addr} (h : ClearH bs bw vo xs H A) : ∀ a, A = some a → a.block < H := fun a ha => (h a ha).1
theorem ClearH.mono {bs : List Nat} {bw H H' : Nat} {vo : Option Nat} {xs : List (Value × ShM)} {A : Option Addr} (h : ClearH bs bw vo xs H A) (hH : H ≤ H') : ClearH bs bw vo xs H' A := fun a ha => by
  obtain ⟨h1, h2⟩ := h a ha
  exact ⟨Nat.lt_of_lt_of_le h1 hH, h2⟩
theorem ClearH.fresh {bs : List Nat} {bw H H' : Nat} {vo : Option Nat} {xs : List (Value × ShM)} {A : Option Addr} (h : ∀ a, A = some a → H ≤ a.block ∧ a.block < H') (hb : ∀ b, b ∈ bs → b < H) (hw : bw < H) (hg : ∀ g, vo = some g → g < H) (hx : ∀ x, x ∈ xs → ∀ q, x.2.bv.ownBlock = some q → q < H) : ClearH bs bw vo xs H' A := fun a ha => by
  obtain ⟨h1, h2⟩ := h a ha
  refine ⟨h2, fun hm => ?_, by omega, fun e => by have := hg _ e; omega, fun x hm e => ?_⟩
  · have := hb _ hm
    omega
  · have := hx x hm _ e
    omega
theorem ClearH.step {bs : List Nat} {bw H q : Nat} {vo : Option Nat} {xs : List (Value × ShM)} {x x' : Value × ShM} {A : Option Addr} (h : ClearH bs bw vo xs H A) (hx : x ∈ xs) (hx' : ∀ g, x'.2.bv.ownBlock = some g → x.2.bv.ownBlock = some g ∨ H ≤ g) : ClearH bs bw vo (xs.set q x') H A := fun a ha => by
  obtain ⟨h1, h2, h3, h4, h5⟩ := h a ha
  refine ⟨h1, h2, h3, h4, fun y hy e => ?_⟩
  rcases List.mem_or_eq_of_mem_set hy with hy | rfl
  · exact h5 y hy e
  · rcases hx' _ e with e2 | e2
    · exact h5 x hx e2
    · omega
section
variable {W wr w1 w2 : World} {bh bk bw m n gu cu q b : Nat} {vu : Value} {l h d : Int} {ws ws' : List Int} {os : List OpH} {bs : List Nat} {xs : List (Value × ShM)} {vp : Value} {A A' : Option Addr} {us : List (OpH × DocD)}
theorem DocH.on (hD : DocH W n bs bw xs l h d A ws us vu wr) (hb : Below wr.heap.size wr w1) : DocH W n bs bw xs l h d A ws us vu w1 :=
  ⟨own_part hD.und (Part.of_below hb (Nat.le_refl _) []) (by simp), hD.len, hD.cells.on hb, hD.ac.mono hb.size, fun p hp => ⟨(hD.bu p hp).1.on hb, (hD.bu p hp).2.mono hb.size⟩, hD.saw⟩
/-- behind what turns a block that is none of its own -/
theorem DocH.part {S : List Nat} (hD : DocH W n bs bw xs l h d A ws us vu wr) (hP : Part S wr w1) (h1 : ∀ q, vu.ownBlock = some q → q ∉ S) (hA : ∀ a, A = some a → a.block ∉ S) (hB : ∀ p, p ∈ us → ∀ a, p.2.2.1 = some a → a.block ∉ S) : DocH W n bs bw xs l h d A ws us vu w1 :=
  ⟨own_part hD.und hP h1, hD.len, hD.cells.parted hP hA, hD.ac.mono hP.size, fun p hp => ⟨(hD.bu p hp).1.parted hP (hB p hp), (hD.bu p hp).2.mono hP.size⟩, hD.saw⟩
/-- the program's operation has been stepped, the document's not yet -/
theorem DocH.coded {x x' : Value × ShM} {T : List Nat} (hD : DocH W n bs bw xs l h d A ws us vu wr) (hM : ManyH W bh bk bw l h d m ws os bs xs vp wr) (hb : bs[q]? = some b) (hx : xs[q]? = some x) (hx' : ∀ g, x'.2.bv.ownBlock = some g → x.2.bv.ownBlock = some g ∨ wr.heap.size ≤ g) (hT : ∀ r, r ∈ T → x.2.bv.ownBlock = some r) (hP : Part (b :: bw :: T) wr w1) : DocH W n bs bw (xs.set q x') l h d A ws us vu w1 := by
  have hmb := List.mem_of_getElem? hb
  have hmx := List.mem_of_getElem? hx
  obtain ⟨o, b', x2, _, h2, h3, hp⟩ := hM.pends.get (lt_of_get hb)
  rw [hb] at h2
  cases h2
  rw [hx] at h3
  cases h3
  have clr : ∀ A, ClearH bs bw vu.ownBlock xs wr.heap.size A → ∀ a, A = some a → a.block ∉ b :: bw :: T := fun A hA a ha hm => by
    obtain ⟨_, c2, c3, _, c5⟩ := hA a ha
    simp only [List.mem_cons] at hm
    rcases hm with e | e | e
    · exact c2 (e ▸ hmb)
    · exact c3 e
    · exact c5 x hmx (hT _ e)
  have hgu : ∀ g, vu.ownBlock = some g → g ∉ b :: bw :: T := fun g hg hm => by
    simp only [List.mem_cons] at hm
    rcases hm with e | e | e
    · exact own_off hD.und hp.row (by decide) _ hg e
    · exact own_off hD.und hM.hist.words.row (by decide) _ hg e
    · obtain ⟨_, l', a1, _⟩ := hp.bu _ (hT _ e)
      exact own_off hD.und a1 (by decide) _ hg rfl
  have h1 := hD.part hP hgu (clr _ hD.ac) (fun p hp' => clr _ (hD.bu p hp').2)
  refine ⟨h1.und, h1.len, h1.cells, (hD.ac.step hmx hx').mono hP.size, fun p hp' => ⟨(h1.bu p hp').1, ((hD.bu p hp').2.step hmx hx').mono hP.size⟩, h1.saw⟩
/-- and now the document's own -/
theorem DocH.both {S : List Nat} {p : OpH × DocD} {o' : OpH} {s' : DocD} (hD : DocH W n bs bw xs l h d A ws us vu wr) (hv : vu = .slice (some ⟨gu, 0, none⟩) n cu) (hb : ∀ b, b ∈ bs → b < wr.heap.size) (hw : bw < wr.heap.size) (hx : ∀ x, x ∈ xs → ∀ q, x.2.bv.ownBlock = some q → q < wr.heap.size) (hq : us[q]? = some p) (hb2 : Below wr.heap.size wr w1) (hA : Ext .u64 w1 A' ws') (hA' : A' = A ∨ ∀ a, A' = some a → wr.heap.size ≤ a.block ∧ a.block < w1.heap.size)
    (hB : Ext .u64 w1 s'.2.1 o'.bu) (hB' : s'.2.1 = p.2.2.1 ∨ ∀ a, s'.2.1 = some a → wr.heap.size ≤ a.block ∧ a.block < w1.heap.size) (hs : o'.ld = true → s'.1 = o'.saw) (hF : FixH l h d o') (hP : Part S (undSet w1 gu (q * 12) o' s') w2) (hS : ∀ r, r ∈ S → w1.heap.size ≤ r ∨ (wr.heap.size ≤ r ∧ (∀ a, A' = some a → a.block ≠ r) ∧ ∀ a, s'.2.1 = some a → a.block ≠ r)) :
    DocH W n bs bw xs l h d A' ws' (us.set q (o', s')) vu w2 := by
  have hgu : gu < wr.heap.size := by
    obtain ⟨g', c', e, _, hlt⟩ := own_some hD.und (by have := lt_of_get hq; have := hD.len; omega)
    rw [hv] at e
    cases e
    exact hlt
  have hvo : vu.ownBlock = some gu := by rw [hv]; rfl
  have h1 := hD.on hb2
  have sz1 := hb2.size
  have fr : ∀ B, (∀ a, B = some a → wr.heap.size ≤ a.block ∧ a.block < w1.heap.size) → ClearH bs bw vu.ownBlock xs w1.heap.size B := fun B hB => ClearH.fresh hB hb hw (fun g hg => by rw [hvo] at hg; cases hg; exact hgu) hx
  have ca : ClearH bs bw vu.ownBlock xs w1.heap.size A' := by
    rcases hA' with rfl | hA'
    · exact hD.ac.mono sz1
    · exact fr _ hA'
  have cb : ClearH bs bw vu.ownBlock xs w1.heap.size s'.2.1 := by
    rcases hB' with e | hB'
    · rw [e]; exact (hD.bu p (List.mem_of_getElem? hq)).2.mono sz1
    · exact fr _ hB'
  have P1 := und_part w1 gu (q * 12) o' s'
  have sz2 := P1.size
  have far : ∀ B, ClearH bs bw vu.ownBlock xs w1.heap.size B → (∀ a, B = some a → a.block < wr.heap.size ∨ ∀ r, r ∈ S → a.block ≠ r) → ∀ (zs : List Int), Ext .u64 w1 B zs → Ext .u64 w2 B zs := fun B hB hB2 zs hz =>
    (hz.parted P1 (fun a ha => by have h9 := (hB a ha).2.2.2.1; rw [hvo] at h9; simpa using fun e => h9 (by rw [e]))).parted hP (fun a ha hm => by
      have h3 := (hB a ha).1
      rcases hB2 a ha with h4 | h4
      · rcases hS _ hm with h5 | h5 <;> omega
      · exact h4 _ hm rfl)
  have sz3 := hP.size
  have hgS : gu ∉ S := fun hm => by rcases hS _ hm with h5 | h5 <;> omega
  refine ⟨?_, by rw [List.length_set]; exact hD.len, ?_, ca.mono (by omega), fun y hy => ?_, fun y hy => ?_⟩
  · have hu := h1.und
    rw [hv] at hu ⊢
    exact own_part (und_stored hu hq (o := o') (s := s')) hP (fun r hr => by cases hr; exact hgS)
  · refine far A' ca (fun a ha => .inr (fun r hr e => ?_)) ws' hA
    rcases hS r hr with h5 | h5
    · have := (ca a ha).1
      omega
    · exact h5.2.1 a ha e
  · rcases List.mem_or_eq_of_mem_set hy with hy | rfl
    · exact ⟨far _ ((hD.bu y hy).2.mono sz1) (fun a ha => .inl ((hD.bu y hy).2 a ha).1) _ ((hD.bu y hy).1.on hb2), (hD.bu y hy).2.mono (by omega)⟩
    · refine ⟨far _ cb (fun a ha => .inr (fun r hr e => ?_)) _ hB, cb.mono (by omega)⟩
      rcases hS r hr with h5 | h5
      · have := (cb a ha).1
        omega
      · exact h5.2.2 a ha e
  · rcases List.mem_or_eq_of_mem_set hy with hy | rfl
    · exact hD.saw y hy
    · exact ⟨hs, hF⟩
end
end Go.Proofs.Ytiifhkfkcljoiaa
