/- THE DOCUMENT'S OWN Step AS ONE CONTRACT over OpQ. -/
import Derived.Test.YtdadgppbpomdoaaQc
import Derived.Test.YtdadgppbpomdoaaQf
import Derived.Test.YtdadgppbpomdoaaQg
import Derived.Test.YtdadgppbpomdoaaPv
namespace Go.Proofs.Ytdadgppbpomdoaa
open Go Go.RowKit

/-- a list of words, a list of registers of the call's own: the block is among X -/
def ListU (W : World) (X : List Nat) (w : World) (s : Option Addr × Nat × Nat) (xs : List Int) : Prop :=
  (xs = [] ∧ s = (none, 0, 0)) ∨ (w.ownsRow W.heap.size 39 1 (sl s) xs.length (u64s xs) ∧ s.2.1 = xs.length ∧ ∀ q, (sl s).ownBlock = some q → q ∈ X)
def RegsU (W : World) (X : List Nat) (w : World) (s : Option Addr × Nat × Nat) (xs : List Int) : Prop :=
  w.ownsRow W.heap.size 60 2 (sl s) xs.length (regCells xs) ∧ s.2.1 = xs.length ∧ ∀ q, (sl s).ownBlock = some q → q ∈ X
def nilU : Option Addr × Nat × Nat := (none, 0, 0)
section
variable {W w w' : World} {X Y : List Nat} {s : Option Addr × Nat × Nat} {xs : List Int}
theorem ListU.on (h : ListU W X w s xs) (hb : Below w.heap.size w w') : ListU W X w' s xs := h.imp id fun ⟨a, b, c⟩ => ⟨own_part a (Part.of_below hb (Nat.le_refl _) []) (by simp), b, c⟩
theorem ListU.wide (h : ListU W X w s xs) (hY : ∀ x ∈ X, x ∈ Y) : ListU W Y w s xs := h.imp id fun ⟨a, b, c⟩ => ⟨a, b, fun q e => hY q (c q e)⟩
theorem ListU.lies (h : ListU W X w s xs) : LiesU w s.1 xs := by
  rcases h with ⟨rfl, _⟩ | ⟨a, b, _⟩
  · exact LiesU.nil _ _
  · obtain ⟨A, n, c⟩ := s
    simp only at b
    subst b
    exact own_liesU a
theorem ListU.len (h : ListU W X w s xs) : s.2.1 = xs.length := by
  rcases h with ⟨rfl, rfl⟩ | ⟨_, b, _⟩
  · rfl
  · exact b
theorem RegsU.on (h : RegsU W X w s xs) (hb : Below w.heap.size w w') : RegsU W X w' s xs := ⟨own_part h.1 (Part.of_below hb (Nat.le_refl _) []) (by simp), h.2.1, h.2.2⟩
theorem RegsU.wide (h : RegsU W X w s xs) (hY : ∀ x ∈ X, x ∈ Y) : RegsU W Y w s xs := ⟨h.1, h.2.1, fun q e => hY q (h.2.2 q e)⟩
end
/-- the document's record of an operation -/
structure DocQ (W : World) (X : List Nat) (w : World) (o : OpQ) (x : DU) : Prop where
  k : x.k = o.k
  r : x.r = o.r
  v : x.v = o.v
  t : x.t = o.t
  en : x.en = decide (o.ph = 2)
  put : o.k = 1 → o.ph ≠ 2 → ∃ saw, x = ⟨1, o.r, o.v, o.t, decide (o.ph = 1), saw, 0, nilU, nilU, false, nilU, false, 0⟩ ∧ (o.ph = 1 → saw = o.saw)
  get : o.k = 2 → o.ph ≠ 2 → x = ⟨2, o.r, o.v, o.t, false, 0, 0, nilU, nilU, false, nilU, false, 0⟩
  scan : o.k = 3 → o.ph ≠ 2 → ∃ last now, x = ⟨3, o.r, o.v, o.t, false, 0, (o.lw.length : Int), last, now, false, nilU, false, (o.c : Int)⟩ ∧ ListU W X w last o.la ∧ ListU W X w now o.lw
  over : o.ph = 2 → RegsU W X w x.regs o.xs ∧ x.cl = o.cl ∧ x.co = if o.k = 3 then (o.c : Int) else 0
section
variable {W w w' : World} {X Y : List Nat} {o : OpQ} {x : DU}
theorem DocQ.on (h : DocQ W X w o x) (hb : Below w.heap.size w w') : DocQ W X w' o x :=
  ⟨h.k, h.r, h.v, h.t, h.en, h.put, h.get, fun a b => by obtain ⟨l, m, e, h1, h2⟩ := h.scan a b; exact ⟨l, m, e, h1.on hb, h2.on hb⟩, fun a => ⟨(h.over a).1.on hb, (h.over a).2⟩⟩
theorem DocQ.wide (h : DocQ W X w o x) (hY : ∀ x ∈ X, x ∈ Y) : DocQ W Y w o x :=
  ⟨h.k, h.r, h.v, h.t, h.en, h.put, h.get, fun a b => by obtain ⟨l, m, e, h1, h2⟩ := h.scan a b; exact ⟨l, m, e, h1.wide hY, h2.wide hY⟩, fun a => ⟨(h.over a).1.wide hY, (h.over a).2⟩⟩
/-- what holds of a scan that has not ended -/
def InvQ (n : Nat) (o : OpQ) : Prop := o.k = 3 → o.ph ≠ 2 → o.lw.length < n ∧ (o.la = [] ∧ o.c = 0 ∨ o.la.length = n ∧ 1 ≤ o.c) ∧ ∀ y ∈ o.lw, U64 y
theorem InvQ.new {n : Nat} (hn : 0 < n) (op : Int × Int × Int × Int) : InvQ n (newQ op) := fun _ _ => ⟨by simpa [newQ] using hn, .inl ⟨rfl, rfl⟩, fun y hy => by simp [newQ] at hy⟩
theorem InvQ.step {n : Nat} {ws : List Int} {o : OpQ} (h : InvQ n o) (hok : OkQ n o) (hn : ws.length = n) (hu : ∀ x ∈ ws, U64 x) : InvQ n (stepQ ws o) := by
  intro hk hp
  rw [(stepQ_same ws o).1] at hk
  by_cases h2 : o.ph = 2
  · rw [(stepQ_over (ws := ws) h2).1] at hp
    exact absurd h2 hp
  obtain ⟨h3, h4, h5⟩ := h hk h2
  have hx : U64 (ws.getD o.lw.length 0) := by
    have : ws[o.lw.length]? = some (ws.getD o.lw.length 0) := by simp [List.getD, show o.lw.length < ws.length by omega]
    exact hu _ (List.mem_of_getElem? this)
  have e : stepQ ws o = if o.lw.length + 1 < ws.length then { o with lw := o.lw ++ [ws.getD o.lw.length 0] }
      else if o.lw ++ [ws.getD o.lw.length 0] = o.la ∨ (o.c : Int) + 1 = o.t then { o with ph := 2, c := o.c + 1, cl := decide (o.lw ++ [ws.getD o.lw.length 0] = o.la), xs := o.lw ++ [ws.getD o.lw.length 0] }
      else { o with c := o.c + 1, la := o.lw ++ [ws.getD o.lw.length 0], lw := [] } := by
    unfold stepQ
    rw [if_neg h2, if_neg (by omega), if_neg (by omega)]
  rw [e] at hp ⊢
  split
  · refine ⟨by simp; omega, h4, fun y hy => ?_⟩
    rcases List.mem_append.1 hy with hy | hy
    · exact h5 y hy
    · simp at hy; subst hy; exact hx
  · rename_i hm
    rw [if_neg hm] at hp
    split
    · rename_i hc
      rw [if_pos hc] at hp
      exact absurd rfl hp
    · exact ⟨by simp; omega, .inr ⟨by simp; omega, by simp⟩, fun y hy => by simp at hy⟩
end
/-- what Step leaves -/
def StepU (W : World) (X : List Nat) (ws : List Int) (o : OpQ) (w : World) (e : Ending) (w' : World) : Prop :=
  ∃ s' x' Y, e = .returned (.tuple #[sl s', .agg x'.cells.toArray, didU (didQ ws o)]) ∧ Below w.heap.size w w' ∧ (∀ y ∈ Y, w.heap.size ≤ y ∧ y < w'.heap.size) ∧ ListU W (Y ++ X) w' s' (stepQW ws o) ∧ DocQ W (Y ++ X) w' (stepQ ws o) x'
theorem part3 {w w4 w' : World} {base n size : Nat} {e : TypeId} {v : Value} {xs : List Value} (h : w4.ownsRow base e size v n xs) (hb : w.heap.size + 3 ≤ base) (hP : Part [w.heap.size + 1, w.heap.size + 1 + 1] w4 w') : w'.ownsRow base e size v n xs :=
  own_part h hP (fun q hq hm => by have := own_from h q hq; simp at hm; omega)
theorem in_app {X Y : List Nat} : ∀ x ∈ X, x ∈ Y ++ X := fun x hx => by simp [hx]
section
variable {W w : World} {X : List Nat} {n : Nat} {ws : List Int} {o : OpQ} {s : Option Addr × Nat × Nat} {x : DU}
theorem du_cells (k r v t : Int) (ld : Bool) (saw at_ : Int) (last now : Option Addr × Nat × Nat) (en : Bool) (regs : Option Addr × Nat × Nat) (cl : Bool) (co : Int) :
    (DU.mk k r v t ld saw at_ last now en regs cl co).cells = undD k r v t ld saw at_ (sl last) (sl now) en (sl regs) cl co := rfl
/-- an action that leaves the words and makes nothing -/
theorem stepU_same {x' : DU} {e : Ending} {w' : World} (hs : ListU W X w s ws) (he : e = .returned (.tuple #[sl s, .agg x'.cells.toArray, didU (didQ ws o)])) (hb : Below w.heap.size w w') (hw : stepQW ws o = ws) (hd : DocQ W X w' (stepQ ws o) x') : StepU W X ws o w e w' :=
  ⟨s, x', [], he, hb, by simp, by rw [hw]; exact hs.on hb, hd⟩
theorem dop_put0 (hs : ListU W X w s ws) (hn : ws.length = n) (h64 : n ≤ 64) (hk : o.k = 1) (hp : o.ph = 0) (ht : o.t = 0) {i : Nat} (hr : o.r = (i : Int)) (hi : i < n) (h : DocQ W X w o x) :
    Calls Try.prog 15 #[sl s, .agg x.cells.toArray] w (StepU W X ws o w) := by
  obtain ⟨saw, rfl, _⟩ := h.put hk (by omega)
  have hl := hs.len
  obtain ⟨xv, hx⟩ : ∃ xv, ws[i]? = some xv := ⟨_, List.getElem?_eq_getElem (by omega)⟩
  have hg : ws.getD o.r.toNat 0 = xv := by rw [hr]; simp [List.getD, hx]
  have e1 : stepQ ws o = { o with ph := 1, saw := xv } := by unfold stepQ; rw [if_neg (by omega), if_pos hk, if_pos hp, hg]
  have e2 : stepQW ws o = ws := by unfold stepQW; rw [if_neg (by omega)]
  have e3 : didQ ws o = (1, (i : Int), xv, xv, true) := by unfold didQ; rw [if_neg (by omega), if_neg (by omega), if_neg (by omega), hg, hr]
  have hph : decide (o.ph = 1) = false := by simp [hp]
  obtain ⟨A, m, c⟩ := s
  simp only at hl
  subst hl
  rw [ht, hr, hph]
  refine (dstep_put (A := A) (n := ws.length) (c := c) rfl (G := fun s' x' d _ => s' = (A, ws.length, c) ∧ x' = ⟨1, (i : Int), o.v, 0, true, xv, 0, nilU, nilU, false, nilU, false, 0⟩ ∧ d = (1, (i : Int), xv, xv, true)) (fun W' hb _ => ?_)).mono ?_
  · refine (dput_load (hs.lies.below hb) rfl hx (by omega)).mono ?_
    rintro e w4 ⟨rfl, hb4⟩
    exact ⟨_, _, _, rfl, hb4, rfl, rfl, rfl⟩
  · rintro e w' ⟨s', x', d, w4, rfl, hb, _, _, rfl, rfl, rfl⟩
    refine stepU_same (s := (A, ws.length, c)) (o := o) hs (by rw [e3]) hb e2 ?_
    rw [e1]
    exact ⟨hk.symm, hr.symm, rfl, ht.symm, rfl, fun _ _ => ⟨xv, by simp [hr, ht], fun _ => rfl⟩, fun e => by simp [hk] at e, fun e => by simp [hk] at e, fun e => by simp at e⟩
theorem dop_miss (hs : ListU W X w s ws) (hn : ws.length = n) (hk : o.k = 1) (hp : o.ph = 1) (ht : o.t = 0) {i : Nat} (hr : o.r = (i : Int)) {xv : Int} (hx : ws[i]? = some xv) (hne : ¬ xv = o.saw) (h : DocQ W X w o x) :
    Calls Try.prog 15 #[sl s, .agg x.cells.toArray] w (StepU W X ws o w) := by
  obtain ⟨saw, rfl, hsw⟩ := h.put hk (by omega)
  obtain rfl := hsw hp
  have hl := hs.len
  have hg : ws.getD o.r.toNat 0 = xv := by rw [hr]; simp [List.getD, hx]
  have e1 : stepQ ws o = { o with ph := 0 } := by unfold stepQ; rw [if_neg (by omega), if_pos hk, if_neg (by omega), hg, if_neg hne]
  have e2 : stepQW ws o = ws := by unfold stepQW; rw [hg, if_neg (by simp [hne])]
  have e3 : didQ ws o = (5, (i : Int), xv, xv, false) := by unfold didQ; rw [if_neg (by omega), if_pos ⟨hk, hp⟩, hg, if_neg hne, hr]
  have hph : decide (o.ph = 1) = true := by simp [hp]
  obtain ⟨A, m, c⟩ := s
  simp only at hl
  subst hl
  rw [ht, hr, hph]
  refine (dstep_put (A := A) (n := ws.length) (c := c) rfl (G := fun s' x' d _ => s' = (A, ws.length, c) ∧ x' = ⟨1, (i : Int), o.v, 0, false, o.saw, 0, nilU, nilU, false, nilU, false, 0⟩ ∧ d = (5, (i : Int), xv, xv, false)) (fun W' hb _ => ?_)).mono ?_
  · refine (dput_miss (hs.lies.below hb) rfl hx hne).mono ?_
    rintro e w4 ⟨rfl, hb4⟩
    exact ⟨_, _, _, rfl, hb4, rfl, rfl, rfl⟩
  · rintro e w' ⟨s', x', d, w4, rfl, hb, _, _, rfl, rfl, rfl⟩
    refine stepU_same (s := (A, ws.length, c)) (o := o) hs (by rw [e3]) hb e2 ?_
    rw [e1]
    exact ⟨hk.symm, hr.symm, rfl, ht.symm, rfl, fun _ _ => ⟨o.saw, by simp [hr, ht], fun e => by simp at e⟩, fun e => by simp [hk] at e, fun e => by simp [hk] at e, fun e => by simp at e⟩
theorem own_of_regU {w : World} {base b n : Nat} {xs : List Int} (h : Row w b 60 (regCells xs)) (hb : base ≤ b) (hn : xs.length = n) (hl : n ≤ maxLen) : w.ownsRow base 60 2 (.slice (some ⟨b, 0, none⟩) n n) n (regCells xs) := by
  subst hn
  refine ⟨by simp, .inr ⟨b, xs.length, (regCells xs).toArray, rfl, hb, h, Nat.le_refl _, hl, by simp, ?_⟩⟩
  rw [List.take_of_length_le (by simp)]
theorem dop_hit (hs : ListU W X w s ws) (hlow : W.heap.size ≤ w.heap.size) (hn : ws.length = n) (h64 : n ≤ 64) (hk : o.k = 1) (hp : o.ph = 1) (ht : o.t = 0) (hv : U32 o.v) (hcl : o.cl = false) {i : Nat} (hr : o.r = (i : Int)) (hx : ws[i]? = some o.saw) (hu : U64 o.saw) (h : DocQ W X w o x) :
    Calls Try.prog 15 #[sl s, .agg x.cells.toArray] w (StepU W X ws o w) := by
  obtain ⟨saw, rfl, hsw⟩ := h.put hk (by omega)
  obtain rfl := hsw hp
  have hl := hs.len
  have hg : ws.getD o.r.toNat 0 = o.saw := by rw [hr]; simp [List.getD, hx]
  have e1 : stepQ ws o = { o with ph := 2, xs := [afterW o.saw o.v] } := by unfold stepQ; rw [if_neg (by omega), if_pos hk, if_neg (by omega), hg, if_pos rfl]
  have e2 : stepQW ws o = ws.set i (afterW o.saw o.v) := by unfold stepQW; rw [hg, if_pos ⟨hk, hp, rfl⟩, hr]; rfl
  have e3 : didQ ws o = (5, (i : Int), o.saw, afterW o.saw o.v, true) := by unfold didQ; rw [if_neg (by omega), if_pos ⟨hk, hp⟩, hg, if_pos rfl, hr]
  have hph : decide (o.ph = 1) = true := by simp [hp]
  obtain ⟨A, m, c⟩ := s
  simp only at hl
  subst hl
  rw [ht, hr, hph]
  refine (dstep_put (A := A) (n := ws.length) (c := c) rfl (G := fun s' x' d w4 => ∃ g5 c5 gr, s' = (some ⟨g5, 0, none⟩, ws.length, c5) ∧ x' = ⟨1, (i : Int), o.v, 0, false, o.saw, 0, nilU, nilU, true, (some ⟨gr, 0, none⟩, 1, 1), false, 0⟩ ∧ d = (5, (i : Int), o.saw, afterW o.saw o.v, true) ∧ w4.ownsRow (w.heap.size + 3) 39 1 (.slice (some ⟨g5, 0, none⟩) ws.length c5) ws.length (u64s (ws.set i (afterW o.saw o.v))) ∧ w4.ownsRow (w.heap.size + 3) 60 2 (.slice (some ⟨gr, 0, none⟩) 1 1) 1 (regCells [afterW o.saw o.v])) (fun W' hb hsz => ?_)).mono ?_
  · refine (dput_hit (hs.lies.below hb) rfl (by omega) hx hu hv).mono ?_
    rintro e w4 ⟨g5, c5, gr, rfl, hgr, _, hrow, hown, hb4⟩
    exact ⟨_, ⟨1, (i : Int), o.v, 0, false, o.saw, 0, nilU, nilU, true, (some ⟨gr, 0, none⟩, 1, 1), false, 0⟩, (5, (i : Int), o.saw, afterW o.saw o.v, true), rfl, hb4, g5, c5, gr, rfl, rfl, rfl, ownsRow_base hown (by omega), own_of_regU hrow (by omega) rfl (by unfold maxLen; omega)⟩
  · rintro e w' ⟨s', x', d, w4, rfl, hb, h3, hP, g5, c5, gr, rfl, rfl, rfl, ho, hR⟩
    have ho' := part3 ho (Nat.le_refl _) hP
    have hR' := part3 hR (Nat.le_refl _) hP
    refine ⟨_, _, [g5, gr], by rw [e3], hb, fun y hy => ?_, ?_, ?_⟩
    · have l1 := own_lt ho' g5 rfl
      have l2 := own_lt hR' gr rfl
      have l3 := own_from ho' g5 rfl
      have l4 := own_from hR' gr rfl
      simp at hy
      rcases hy with rfl | rfl <;> omega
    · rw [e2]
      refine .inr ⟨?_, by simp, fun q e => by simp [sl, Value.ownBlock] at e ⊢; omega⟩
      simp only [List.length_set]
      exact ownsRow_base ho' (by omega)
    · rw [e1]
      refine ⟨hk.symm, hr.symm, rfl, ht.symm, rfl, fun _ e => by simp at e, fun e => by simp [hk] at e, fun e => by simp [hk] at e, fun _ => ⟨⟨ownsRow_base hR' (by omega), rfl, fun q e => by simp [sl, Value.ownBlock] at e ⊢; omega⟩, hcl.symm, by simp [hk]⟩⟩
theorem dop_get (hs : ListU W X w s ws) (hlow : W.heap.size ≤ w.heap.size) (hn : ws.length = n) (hk : o.k = 2) (hp : o.ph = 0) (hv : o.v = 0) (ht : o.t = 0) (hcl : o.cl = false) {i : Nat} (hr : o.r = (i : Int)) {xv : Int} (hx : ws[i]? = some xv) (hu : U64 xv) (h : DocQ W X w o x) :
    Calls Try.prog 15 #[sl s, .agg x.cells.toArray] w (StepU W X ws o w) := by
  obtain rfl := h.get hk (by omega)
  have hl := hs.len
  have hg : ws.getD o.r.toNat 0 = xv := by rw [hr]; simp [List.getD, hx]
  have e1 : stepQ ws o = { o with ph := 2, xs := [xv] } := by unfold stepQ; rw [if_neg (by omega), if_neg (by omega), if_pos hk, hg]
  have e2 : stepQW ws o = ws := by unfold stepQW; rw [if_neg (by omega)]
  have e3 : didQ ws o = (1, (i : Int), xv, xv, true) := by unfold didQ; rw [if_neg (by omega), if_neg (by omega), if_neg (by omega), hg, hr]
  obtain ⟨A, m, c⟩ := s
  simp only at hl
  subst hl
  rw [ht, hr, hv]
  refine (dstep_get (A := A) (n := ws.length) (c := c) hs.lies rfl hx hu).mono ?_
  rintro e w' ⟨gr, rfl, hgr, hrow, hb⟩
  refine ⟨(A, ws.length, c), ⟨2, (i : Int), 0, 0, false, 0, 0, nilU, nilU, true, (some ⟨gr, 0, none⟩, 1, 1), false, 0⟩, [gr], by rw [e3]; rfl, hb, fun y hy => ?_, ?_, ?_⟩
  · simp at hy
    subst hy
    exact ⟨hgr, hrow.lt⟩
  · rw [e2]
    exact (hs.on hb).wide in_app
  · rw [e1]
    refine ⟨hk.symm, hr.symm, hv.symm, ht.symm, rfl, fun e => by simp [hk] at e, fun _ e => by simp at e, fun e => by simp [hk] at e, fun _ => ⟨⟨own_of_regU (n := 1) hrow (by omega) rfl (by unfold maxLen; omega), rfl, fun q e => by simp [sl, Value.ownBlock] at e ⊢; omega⟩, hcl.symm, by simp [hk]⟩⟩
theorem dop_scan (hs : ListU W X w s ws) (hlow : W.heap.size ≤ w.heap.size) (hn : ws.length = n) (h64 : n ≤ 64) (hu : ∀ y ∈ ws, U64 y) (hk : o.k = 3) (hp : o.ph = 0) (hr : o.r = 0) (hv : o.v = 0) (ht' : o.t ≤ 1024) (hc : (o.c : Int) < o.t) (hI : InvQ n o) (h : DocQ W X w o x) :
    Calls Try.prog 15 #[sl s, .agg x.cells.toArray] w (StepU W X ws o w) := by
  obtain ⟨⟨Al, ml, cal⟩, ⟨An, mn, can⟩, rfl, hla, hlw⟩ := h.scan hk (by omega)
  obtain ⟨i1, i2, i3⟩ := hI hk (by omega)
  have hl := hs.len
  have l1 := hla.len
  have l2 := hlw.len
  obtain ⟨xv, hx⟩ : ∃ xv, ws[o.lw.length]? = some xv := ⟨_, List.getElem?_eq_getElem (by omega)⟩
  have hxu := hu xv (List.mem_of_getElem? hx)
  have hg : ws.getD o.lw.length 0 = xv := by simp [List.getD, hx]
  have e2 : stepQW ws o = ws := by unfold stepQW; rw [if_neg (by omega)]
  have e3 : didQ ws o = (1, (o.lw.length : Int), xv, xv, true) := by unfold didQ; rw [if_neg (by omega), if_neg (by omega), if_pos hk, hg]
  have e1 : stepQ ws o = if o.lw.length + 1 < ws.length then { o with lw := o.lw ++ [xv] }
      else if o.lw ++ [xv] = o.la ∨ (o.c : Int) + 1 = o.t then { o with ph := 2, c := o.c + 1, cl := decide (o.lw ++ [xv] = o.la), xs := o.lw ++ [xv] }
      else { o with c := o.c + 1, la := o.lw ++ [xv], lw := [] } := by
    unfold stepQ
    rw [if_neg (by omega), if_neg (by omega), if_neg (by omega), hg]
  have hcl : (1 < (o.c : Int) + 1 ∧ o.lw ++ [xv] = o.la) ↔ o.lw ++ [xv] = o.la := ⟨fun e => e.2, fun e => ⟨by
    rcases i2 with ⟨e0, _⟩ | ⟨_, e0⟩
    · rw [e0] at e; simp at e
    · omega, e⟩⟩
  have hla64 : o.la.length ≤ 64 := by rcases i2 with ⟨e, _⟩ | ⟨e, _⟩ <;> simp [e] <;> omega
  obtain ⟨A, m, c⟩ := s
  simp only at hl l1 l2
  subst hl
  subst l1
  subst l2
  rw [hr, hv]
  refine (dstep_scan (A := A) (n := ws.length) (c := c) rfl (G := fun s' x' d w4 => s' = (A, ws.length, c) ∧ d = (1, (o.lw.length : Int), xv, xv, true) ∧ ∃ g5 c5, w4.ownsRow (w.heap.size + 3) 39 1 (.slice (some ⟨g5, 0, none⟩) (o.lw.length + 1) c5) (o.lw.length + 1) (u64s (o.lw ++ [xv])) ∧
      ((o.lw.length + 1 < ws.length ∧ x' = ⟨3, 0, 0, o.t, false, 0, (o.lw.length : Int) + 1, (Al, o.la.length, cal), (some ⟨g5, 0, none⟩, o.lw.length + 1, c5), false, nilU, false, (o.c : Int)⟩) ∨
       (o.lw.length + 1 = ws.length ∧ ¬ (1 < (o.c : Int) + 1 ∧ o.lw ++ [xv] = o.la) ∧ (o.c : Int) + 1 ≠ o.t ∧ x' = ⟨3, 0, 0, o.t, false, 0, 0, (some ⟨g5, 0, none⟩, o.lw.length + 1, c5), nilU, false, nilU, false, (o.c : Int) + 1⟩) ∨
       (o.lw.length + 1 = ws.length ∧ ((1 < (o.c : Int) + 1 ∧ o.lw ++ [xv] = o.la) ∨ (o.c : Int) + 1 = o.t) ∧ ∃ gr cr, w4.ownsRow (w.heap.size + 3) 60 2 (.slice (some ⟨gr, 0, none⟩) ws.length cr) ws.length (regCells (o.lw ++ [xv])) ∧ x' = ⟨3, 0, 0, o.t, false, 0, 0, (some ⟨g5, 0, none⟩, o.lw.length + 1, c5), nilU, true, (some ⟨gr, 0, none⟩, ws.length, cr), decide (1 < (o.c : Int) + 1 ∧ o.lw ++ [xv] = o.la), (o.c : Int) + 1⟩))) (fun W' hb hsz => ?_)).mono ?_
  · refine (dscan_any (hs.lies.below hb) rfl (by omega) hx (hlw.lies.below hb) (hla.lies.below hb) hla64 (fun y hy => ?_) (co := (o.c : Int)) (t := o.t) ⟨by omega, by omega⟩).mono ?_
    · rcases List.mem_append.1 hy with hy | hy
      · exact i3 y hy
      · simp at hy; subst hy; exact hxu
    · rintro e w4 ⟨g5, c5, hg5, hown, hb4, hw⟩
      rcases hw with ⟨h1, rfl⟩ | ⟨h1, h2, h3, rfl⟩ | ⟨h1, h2, gr, cr, hR, rfl⟩
      · exact ⟨_, (1, (o.lw.length : Int), xv, xv, true), rfl, hb4, rfl, rfl, g5, c5, ownsRow_base hown (by omega), .inl ⟨h1, rfl⟩⟩
      · exact ⟨_, (1, (o.lw.length : Int), xv, xv, true), rfl, hb4, rfl, rfl, g5, c5, ownsRow_base hown (by omega), .inr (.inl ⟨h1, h2, h3, rfl⟩)⟩
      · exact ⟨_, (1, (o.lw.length : Int), xv, xv, true), rfl, hb4, rfl, rfl, g5, c5, ownsRow_base hown (by omega), .inr (.inr ⟨h1, h2, gr, cr, ownsRow_base hR (by omega), rfl⟩)⟩
  · rintro e w' ⟨s', x', d, w4, rfl, hb, h3, hP, rfl, rfl, g5, c5, ho, hw⟩
    have ho' := part3 ho (Nat.le_refl _) hP
    have l1 := own_lt ho' g5 rfl
    have l3 := own_from ho' g5 rfl
    have hL : ListU W (g5 :: X) w' (some ⟨g5, 0, none⟩, o.lw.length + 1, c5) (o.lw ++ [xv]) := .inr ⟨by simp only [List.length_append, List.length_singleton]; exact ownsRow_base ho' (by omega), by simp, fun q e => by simp [sl, Value.ownBlock] at e ⊢; omega⟩
    rcases hw with ⟨h1, rfl⟩ | ⟨h1, h2, h4, rfl⟩ | ⟨h1, h2, gr, cr, hR, rfl⟩
    · refine ⟨(A, ws.length, c), _, [g5], by rw [e3], hb, fun y hy => by simp at hy; subst hy; omega, by rw [e2]; exact (hs.on hb).wide in_app, ?_⟩
      rw [e1, if_pos h1]
      exact ⟨hk.symm, hr.symm, hv.symm, rfl, by simp [hp], fun e => by simp [hk] at e, fun e => by simp [hk] at e, fun _ _ => ⟨(Al, o.la.length, cal), (some ⟨g5, 0, none⟩, o.lw.length + 1, c5), by simp [hr, hv], (hla.on hb).wide in_app, hL⟩, fun e => by simp [hp] at e⟩
    · refine ⟨(A, ws.length, c), _, [g5], by rw [e3], hb, fun y hy => by simp at hy; subst hy; omega, by rw [e2]; exact (hs.on hb).wide in_app, ?_⟩
      rw [e1, if_neg (by omega), if_neg (fun e => e.elim (fun e => h2 (hcl.2 e)) h4)]
      exact ⟨hk.symm, hr.symm, hv.symm, rfl, by simp [hp], fun e => by simp [hk] at e, fun e => by simp [hk] at e, fun _ _ => ⟨(some ⟨g5, 0, none⟩, o.lw.length + 1, c5), nilU, by simp [hr, hv], hL, .inl ⟨rfl, rfl⟩⟩, fun e => by simp [hp] at e⟩
    · have hR' := part3 hR (Nat.le_refl _) hP
      have r1 := own_lt hR' gr rfl
      have r3 := own_from hR' gr rfl
      refine ⟨(A, ws.length, c), _, [g5, gr], by rw [e3], hb, fun y hy => by simp at hy; rcases hy with rfl | rfl <;> omega, by rw [e2]; exact (hs.on hb).wide in_app, ?_⟩
      rw [e1, if_neg (by omega), if_pos (by rw [← hcl]; exact h2)]
      refine ⟨hk.symm, hr.symm, hv.symm, rfl, rfl, fun e => by simp [hk] at e, fun e => by simp [hk] at e, fun _ e => by simp at e, fun _ => ⟨⟨?_, by simp [h1], fun q e => by simp [sl, Value.ownBlock] at e ⊢; omega⟩, ?_, by simp [hk]⟩⟩
      · simp only [List.length_append, List.length_singleton, h1]
        exact ownsRow_base hR' (by omega)
      · simp only [decide_eq_decide]
        exact hcl
/-- the document's Step, whatever the operation -/
theorem dop_any (hs : ListU W X w s ws) (hlow : W.heap.size ≤ w.heap.size) (hn : ws.length = n) (h64 : n ≤ 64) (hu : ∀ y ∈ ws, U64 y) (hok : OkQ n o) (hle : o.ph ≤ 2) (hp : o.ph ≠ 2) (hI : InvQ n o) (h : DocQ W X w o x) :
    Calls Try.prog 15 #[sl s, .agg x.cells.toArray] w (StepU W X ws o w) := by
  rcases hok with ⟨hk, ⟨i, hr, hi⟩, hv, ht, hsw, hcl⟩ | ⟨hk, ⟨i, hr, hi⟩, hv, ht, h1, hcl⟩ | ⟨hk, hr, hv, ht, ht', hct, hct', h1⟩
  · by_cases h0 : o.ph = 0
    · exact dop_put0 hs hn h64 hk h0 ht hr hi h
    · have h1 : o.ph = 1 := by omega
      obtain ⟨xv, hx⟩ : ∃ xv, ws[i]? = some xv := ⟨_, List.getElem?_eq_getElem (by omega)⟩
      by_cases e : xv = o.saw
      · subst e
        exact dop_hit hs hlow hn h64 hk h1 ht hv hcl hr hx hsw h
      · exact dop_miss hs hn hk h1 ht hr hx e h
  · obtain ⟨xv, hx⟩ : ∃ xv, ws[i]? = some xv := ⟨_, List.getElem?_eq_getElem (by omega)⟩
    exact dop_get hs hlow hn hk (by omega) hv ht hcl hr hx (hu xv (List.mem_of_getElem? hx)) h
  · exact dop_scan hs hlow hn h64 hu hk (by omega) hr hv ht' (hct' hp) hI h
end
end Go.Proofs.Ytdadgppbpomdoaa
