/- WHOLE OPERATIONS OF A RING, WHATEVER THEIR NUMBERS: code and document, each as one contract; both side by side. -/
import Derived.Test.YtjehcgeodcpcaaaKo
namespace Go.Proofs.Ytjehcgeodcpcaaa
open Go Go.RowKit

theorem runN_sum (ws : List Int) : ∀ (j : Nat) (o : OpN), o.k = 2 → o.ph ≠ 1 → (runN j (ws, o)).1 = ws
  | 0, _, _, _ => rfl
  | j + 1, o, hk, hp => by
    have h1 : stepNW ws o = ws := if_neg (by omega)
    have h2 := (stepN_same ws o).1
    have h3 : (stepN ws o).ph ≠ 1 := by
      unfold stepN
      by_cases h0 : o.ph = 0
      · rw [if_pos h0, if_neg (by omega)]
        by_cases hc : o.cur = o.q
        · rw [if_pos hc]; simp
        · rw [if_neg hc]; simp [h0]
      · rw [if_neg h0, if_neg hp]
        exact hp
    show (runN j (stepNW ws o, stepN ws o)).1 = ws
    rw [h1]
    exact runN_sum ws j _ (h2.trans hk) h3
theorem runN_len : ∀ (j : Nat) (s : List Int × OpN), (runN j s).1.length = s.1.length
  | 0, _ => rfl
  | j + 1, s => by
    show (runN j (stepNW s.1 s.2, stepN s.1 s.2)).1.length = _
    rw [runN_len j, stepNW_len]
theorem doN_sum (ws : List Int) (q : Nat) (n : Int) : (doN ws 2 q n).1 = ws := runN_sum ws _ _ rfl (by simp [newN])
theorem doN_len (ws : List Int) (k : Int) (q : Nat) (n : Int) : (doN ws k q n).1.length = ws.length := runN_len _ _
theorem doN_over {ws : List Int} {k n : Int} {q : Nat} (hr : RightN k q n) (h0 : 0 < ws.length) (h1 : ws.length ≤ 4096) (hu : ∀ u ∈ ws, U64 u) : (doN ws k q n).2.ph = 2 :=
  runN_ends (fun e => absurd e (by simp [newN])) (OkN.new hr h0 h1) (fun t => hu _ (List.mem_of_getElem? (cellN_get h0 t))) _ (Nat.le_refl _)
/-- an add, whatever its numbers: the words behind it, and what it answers -/
def addD (wd : Int) (ws : List Int) (t m : Int) : List Int × Int := if checkE wd 1 t m = 0 then ((doN ws 1 (t / wd).toNat m).1, (doN ws 1 (t / wd).toNat m).2.why) else (ws, checkE wd 1 t m)
/-- a sum, whatever its moment -/
def sumD (wd : Int) (ws : List Int) (t : Int) : Int × Int := if checkE wd 2 t 0 = 0 then ((doN ws 2 (t / wd).toNat 0).2.ans, (doN ws 2 (t / wd).toNat 0).2.why) else (0, checkE wd 2 t 0)
theorem addD_len (wd : Int) (ws : List Int) (t m : Int) : (addD wd ws t m).1.length = ws.length := by
  unfold addD
  split
  · exact doN_len _ _ _ _
  · rfl
section
variable {w : World} {br bk bw : Nat} {wd : Int} {ws us : List Int} {t m a y : Int}
theorem nadd_do (h : Rng w br bk bw wd ws) (ht : t ≤ 9223372036854775807) (hm : U64 m) (e : addD wd ws t m = (us, y)) :
    Calls Try.prog 18 #[.pointer (some ⟨br, 0, none⟩), .int .i64 t, .int .u64 m] w (WholeN w br bk bw wd us (.int .i64 y)) := by
  unfold addD at e
  by_cases hc : checkE wd 1 t m = 0
  · rw [if_pos hc] at e
    exact nadd_is h ht (fineN_of h.wid.1 hm hc) (congrArg Prod.fst e) (congrArg Prod.snd e)
  · rw [if_neg hc] at e
    obtain ⟨rfl, rfl⟩ : ws = us ∧ checkE wd 1 t m = y := ⟨congrArg Prod.fst e, congrArg Prod.snd e⟩
    refine (nadd_no h ht hm rfl hc).mono ?_
    rintro e w' ⟨he, hb⟩
    exact ⟨he, h.on hb, Part.of_below hb (Nat.le_refl _) _⟩
theorem nsum_do (h : Rng w br bk bw wd ws) (ht : t ≤ 9223372036854775807) (e : sumD wd ws t = (a, y)) :
    Calls Try.prog 19 #[.pointer (some ⟨br, 0, none⟩), .int .i64 t] w (WholeN w br bk bw wd ws (.tuple #[.int .u64 a, .int .i64 y])) := by
  unfold sumD at e
  by_cases hc : checkE wd 2 t 0 = 0
  · rw [if_pos hc] at e
    exact nsum_is h ht (fineN_of h.wid.1 U64.zero hc) (doN_sum _ _ _) (congrArg Prod.fst e) (congrArg Prod.snd e)
  · rw [if_neg hc] at e
    obtain ⟨rfl, rfl⟩ : 0 = a ∧ checkE wd 2 t 0 = y := ⟨congrArg Prod.fst e, congrArg Prod.snd e⟩
    refine (nsum_no h ht rfl hc).mono ?_
    rintro e w' ⟨he, hb⟩
    exact ⟨he, h.on hb, Part.of_below hb (Nat.le_refl _) _⟩
theorem ddo_add {W : World} {A : Option Addr} {n c : Nat} (e : addD wd ws t m = (us, y)) (hn : ws.length = n) (h : w.ownsRow W.heap.size 37 1 (.slice A n c) n (u64s ws)) (hlow : W.heap.size ≤ w.heap.size) (hp : 0 < n) (hl : n ≤ 4096) (hw : 1 ≤ wd) (hw2 : wd ≤ 1152921504606846976) (ht : t ≤ 9223372036854775807) (hm : U64 m) (hu : ∀ u ∈ ws, U64 u) :
    Calls Try.prog 17 #[.agg #[.int .i64 wd, .slice A n c], .agg #[.int .u8 1, .int .i64 t, .int .u64 m]] w fun e w' => ∃ A' c' a, e = .returned (.tuple #[.agg #[.int .i64 wd, .slice A' n c'], .int .u64 a, .int .i64 y]) ∧ w'.ownsRow W.heap.size 37 1 (.slice A' n c') n (u64s us) ∧ Below w.heap.size w w' := by
  unfold addD at e
  by_cases hc : checkE wd 1 t m = 0
  · rw [if_pos hc] at e
    obtain ⟨rfl, rfl⟩ : (doN ws 1 (t / wd).toNat m).1 = us ∧ (doN ws 1 (t / wd).toNat m).2.why = y := ⟨congrArg Prod.fst e, congrArg Prod.snd e⟩
    subst hn
    have hf := fineN_of hw hm hc
    refine (ddo_op (wsE := (doN ws 1 (t / wd).toNat m).1) (oE := (doN ws 1 (t / wd).toNat m).2) rfl h hlow hp hl hw hw2 ht hu hf rfl (doN_over hf.right hp hl hu)).mono ?_
    rintro e w' ⟨A', c', he, ho, hb⟩
    exact ⟨A', c', _, he, ho, hb⟩
  · rw [if_neg hc] at e
    obtain ⟨rfl, rfl⟩ : ws = us ∧ checkE wd 1 t m = y := ⟨congrArg Prod.fst e, congrArg Prod.snd e⟩
    refine (ddo_no hw hw2 ht hm rfl hc).mono ?_
    rintro e w' ⟨he, hb⟩
    exact ⟨A, c, 0, he, own_part h (Part.of_below hb (Nat.le_refl _) []) (by simp), hb⟩
theorem ddo_sum {W : World} {A : Option Addr} {n c : Nat} (e : sumD wd ws t = (a, y)) (hn : ws.length = n) (h : w.ownsRow W.heap.size 37 1 (.slice A n c) n (u64s ws)) (hlow : W.heap.size ≤ w.heap.size) (hp : 0 < n) (hl : n ≤ 4096) (hw : 1 ≤ wd) (hw2 : wd ≤ 1152921504606846976) (ht : t ≤ 9223372036854775807) (hu : ∀ u ∈ ws, U64 u) :
    Calls Try.prog 17 #[.agg #[.int .i64 wd, .slice A n c], .agg #[.int .u8 2, .int .i64 t, .int .u64 0]] w fun e w' => ∃ A' c', e = .returned (.tuple #[.agg #[.int .i64 wd, .slice A' n c'], .int .u64 a, .int .i64 y]) ∧ Below w.heap.size w w' := by
  unfold sumD at e
  by_cases hc : checkE wd 2 t 0 = 0
  · rw [if_pos hc] at e
    obtain ⟨rfl, rfl⟩ : (doN ws 2 (t / wd).toNat 0).2.ans = a ∧ (doN ws 2 (t / wd).toNat 0).2.why = y := ⟨congrArg Prod.fst e, congrArg Prod.snd e⟩
    subst hn
    have hf := fineN_of hw U64.zero hc
    refine (ddo_op (wsE := (doN ws 2 (t / wd).toNat 0).1) (oE := (doN ws 2 (t / wd).toNat 0).2) rfl h hlow hp hl hw hw2 ht hu hf rfl (doN_over hf.right hp hl hu)).mono ?_
    rintro e w' ⟨A', c', he, ho, hb⟩
    exact ⟨A', c', he, hb⟩
  · rw [if_neg hc] at e
    obtain ⟨rfl, rfl⟩ : 0 = a ∧ checkE wd 2 t 0 = y := ⟨congrArg Prod.fst e, congrArg Prod.snd e⟩
    refine (ddo_no hw hw2 ht U64.zero rfl hc).mono ?_
    rintro e w' ⟨he, hb⟩
    exact ⟨A, c, he, hb⟩
end
/-- code and document side by side: the ring's words, the document's cells, and the box b of its window -/
structure PlN (W : World) (br bk bw b n : Nat) (wd : Int) (ws us : List Int) (A : Option Addr) (c : Nat) (w : World) : Prop where
  rng : Rng w br bk bw wd ws
  len : ws.length = n
  doc : w.ownsRow W.heap.size 37 1 (.slice A n c) n (u64s us)
  box : Row w b 31 [.int .i64 wd, .slice A n c]
  lob : W.heap.size ≤ b
  low : Below W.heap.size W w
  low2 : W.heap.size ≤ bw
section
variable {W w w' : World} {br bk bw b n : Nat} {wd : Int} {ws us : List Int} {A : Option Addr} {c : Nat}
theorem PlN.on (h : PlN W br bk bw b n wd ws us A c w) (hb : Below w.heap.size w w') : PlN W br bk bw b n wd ws us A c w' :=
  ⟨h.rng.on hb, h.len, own_part h.doc (Part.of_below hb (Nat.le_refl _) []) (by simp), h.box.below hb h.box.lt, h.lob, h.low.trans (hb.mono h.low.size), h.low2⟩
/-- the document's cells and box are anew -/
theorem PlN.next {us' : List Int} {A' : Option Addr} {c' : Nat} (h : PlN W br bk bw b n wd ws us A c w) (ho : w.ownsRow W.heap.size 37 1 (.slice A' n c') n (u64s us')) : PlN W br bk bw b n wd ws us' A' c' (ringSet w b (.int .i64 wd) (.slice A' n c')) := by
  have P := ringSet_part w b (.int .i64 wd) (.slice A' n c')
  have n0 : br ≠ b := h.rng.head.ne h.box (by decide)
  have n1 : bk ≠ b := h.rng.words.head.ne h.box (by decide)
  have n2 : bw ≠ b := h.rng.words.row.ne h.box (by decide)
  exact ⟨h.rng.part P (not_sing n0) (not_sing n1) (not_sing n2), h.len, own_part ho P (fun z e => not_sing (own_off ho h.box (by decide) z e)), ringSet_row h.box _ _, h.lob, ringSet_below h.low h.lob _ _, h.low2⟩
/-- the ring's words are anew -/
theorem PlN.code {ws' : List Int} (h : PlN W br bk bw b n wd ws us A c w) (hl : ws'.length = ws.length) (hr : Rng w' br bk bw wd ws') (hp : Part [bw] w w') : PlN W br bk bw b n wd ws' us A c w' := by
  have n2 : b ≠ bw := h.box.ne h.rng.words.row (by decide)
  exact ⟨hr, hl.trans h.len, own_part h.doc hp (fun z e => not_sing (own_off h.doc h.rng.words.row (by decide) z e)), h.box.part hp (not_sing n2), h.lob, h.low.trans (hp.below h.low.size (fun k hk => by rw [List.mem_singleton.1 hk]; exact h.low2)), h.low2⟩
/-- what is stored into another block changes nothing -/
theorem PlN.far {g : Nat} (h : PlN W br bk bw b n wd ws us A c w) (hp : Part [g] w w') (hg : W.heap.size ≤ g) (h0 : br ≠ g) (h1 : bk ≠ g) (h2 : bw ≠ g) (h3 : b ≠ g) (h4 : ∀ z, (Value.slice A n c).ownBlock = some z → z ≠ g) : PlN W br bk bw b n wd ws us A c w' :=
  ⟨h.rng.part hp (not_sing h0) (not_sing h1) (not_sing h2), h.len, own_part h.doc hp (fun z e => not_sing (h4 z e)), h.box.part hp (not_sing h3), h.lob, h.low.trans (hp.below h.low.size (fun k hk => by rw [List.mem_singleton.1 hk]; exact hg)), h.low2⟩
end
end Go.Proofs.Ytjehcgeodcpcaaa
