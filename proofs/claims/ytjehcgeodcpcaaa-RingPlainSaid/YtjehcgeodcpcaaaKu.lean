/- THE DOCUMENT'S OWN Step OF A RING AS ONE CONTRACT over OpN. -/
import Derived.Test.YtjehcgeodcpcaaaKr
import Derived.Test.YtjehcgeodcpcaaaKt
import Derived.Test.YtjehcgeodcpcaaaKi
namespace Go.Proofs.Ytjehcgeodcpcaaa
open Go Go.RowKit

/-- the document's record of an operation under way, as plain data -/
structure DN where
  k : Int
  t : Int
  n : Int
  bg : Bool
  ld : Bool
  saw : Int
  nx : Int
  en : Bool
  sm : Int
  why : Int
def DN.cells (x : DN) : List Value := undN x.k x.t x.n x.bg x.ld x.saw x.nx x.en x.sm x.why
/-- the document's record tells of the operation -/
structure DocN (len : Nat) (t : Int) (o : OpN) (x : DN) : Prop where
  k : x.k = o.k
  t : x.t = t
  n : x.n = o.n
  en : x.en = decide (o.ph = 2)
  add : o.k = 1 → o.ph ≠ 2 → x.bg = false ∧ x.ld = decide (o.ph = 1) ∧ x.nx = 0 ∧ x.sm = 0 ∧ x.why = 0
  one : o.ph = 1 → x.saw = o.saw ∧ o.put = wordN (o.cur : Int) (cntN o.saw (o.cur : Int) + o.n) ∧ o.ans = cntN o.saw (o.cur : Int) + o.n ∧ cntN o.saw (o.cur : Int) + o.n ≤ 4294967295
  sum : o.k = 2 → o.ph ≠ 2 → x.ld = false ∧ x.saw = 0 ∧ x.sm = o.ans ∧ x.why = 0 ∧ ((x.bg = true ∧ x.nx = (o.cur : Int)) ∨ (x.bg = false ∧ x.nx = 0 ∧ o.q + 1 - len = o.cur))
  over : o.ph = 2 → x.why = o.why ∧ (o.why = 0 → x.sm = o.ans) ∧ (o.why ≠ 0 → o.ans = 0)
theorem DocN.new {len : Nat} {k t n : Int} {q : Nat} (_hk : k = 1 ∨ k = 2) : DocN len t (newN len k q n) ⟨k, t, n, false, false, 0, 0, false, 0, 0⟩ :=
  ⟨rfl, rfl, rfl, rfl, fun _ _ => ⟨rfl, rfl, rfl, rfl, rfl⟩, fun h => by simp [newN] at h, fun e _ => ⟨rfl, rfl, rfl, rfl, .inr ⟨rfl, rfl, by simp only [newN] at e ⊢; rw [if_neg (by omega)]⟩⟩, fun h => by simp [newN] at h⟩
/-- what Step leaves -/
def StepD (W : World) (w : World) (wd : Int) (ws : List Int) (o : OpN) (t : Int) (e : Ending) (w' : World) : Prop :=
  ∃ A' c' x', e = .returned (.tuple #[.agg #[.int .i64 wd, .slice A' ws.length c'], .agg x'.cells.toArray, didN ws o]) ∧ w'.ownsRow W.heap.size 37 1 (.slice A' ws.length c') ws.length (u64s (stepNW ws o)) ∧ DocN ws.length t (stepN ws o) x' ∧ Below w.heap.size w w'
theorem dstepn_op {W w : World} {A : Option Addr} {c : Nat} {ws : List Int} {wd t : Int} {o : OpN} {x : DN} (h : w.ownsRow W.heap.size 37 1 (.slice A ws.length c) ws.length (u64s ws)) (hlow : W.heap.size ≤ w.heap.size) (hp : 0 < ws.length) (hl : ws.length ≤ 4096) (hw : 1 ≤ wd) (hw2 : wd ≤ 1152921504606846976) (ht : t ≤ 9223372036854775807) (hu : ∀ y ∈ ws, U64 y) (ho : OkN o) (hf : FineN wd o.k t o.n o.q) (hd : DocN ws.length t o x) :
    Calls Try.prog 12 #[.agg #[.int .i64 wd, .slice A ws.length c], .agg x.cells.toArray] w (StepD W w wd ws o t) := by
  have hL := own_liesU h
  have hx := cellN_get hp o.cur
  have hux := hu _ (List.mem_of_getElem? hx)
  obtain ⟨k, t', n, bg, ld, saw, nx, en, sm, why⟩ := x
  obtain ⟨d1, d2, d3, d4, d5, d6, d7, d8⟩ := hd
  simp only at d1 d2 d3 d4 d5 d6 d7 d8
  subst d1
  subst d2
  subst d3
  have same : ∀ {e : Ending} {w' : World} {x' : DN} {dv : Value}, e = .returned (.tuple #[.agg #[.int .i64 wd, .slice A ws.length c], .agg x'.cells.toArray, dv]) → Below w.heap.size w w' → stepNW ws o = ws → dv = didN ws o → DocN ws.length t' (stepN ws o) x' → StepD W w wd ws o t' e w' := fun he hb hws hdv hdoc => by
    subst hdv
    exact ⟨A, c, _, he, by rw [hws]; exact own_part h (Part.of_below hb (Nat.le_refl _) []) (by simp), hdoc, hb⟩
  by_cases h2 : o.ph = 2
  · have hs : stepN ws o = o := by unfold stepN; rw [if_neg (by omega), if_neg (by omega)]
    have hen : en = true := by rw [d4]; simpa using h2
    subst hen
    refine dstep_over.mono ?_
    rintro e w' ⟨rfl, hb⟩
    refine same (x' := ⟨o.k, t', o.n, bg, ld, saw, nx, true, sm, why⟩) rfl hb (by unfold stepNW; rw [if_neg (by omega)]) (by unfold didN; rw [if_neg (by omega), if_neg (by omega)]) ?_
    rw [hs]
    exact ⟨rfl, rfl, rfl, d4, d5, d6, d7, d8⟩
  have hen : en = false := by rw [d4]; simpa using h2
  subst hen
  have h3 := ho.ph
  rcases ho.kind with hk | hk
  · obtain ⟨rfl, hld, rfl, rfl, rfl⟩ := d5 hk h2
    have hcq := ho.add hk
    have hf1 := hf
    rw [hk] at hf1
    rw [← hcq] at hf1
    by_cases h0 : o.ph = 0
    · have hld0 : ld = false := by rw [hld]; simp [h0]
      subst hld0
      have hw0 : stepNW ws o = ws := by unfold stepNW; rw [if_neg (by omega)]
      have hdd : didN ws o = .agg #[.int .u8 1, .int .i64 ((o.cur % ws.length : Nat) : Int), .int .u64 (cellN ws o.cur), .int .u64 (cellN ws o.cur), .bool true] := by unfold didN; rw [if_pos h0]
      have fin : ∀ {en' : Bool} {why' : Int} (_ : ((o.cur : Int) < cellN ws o.cur / 4294967296 ∧ en' = true ∧ why' = 50) ∨ (¬ (o.cur : Int) < cellN ws o.cur / 4294967296 ∧ 4294967295 < cntN (cellN ws o.cur) (o.cur : Int) + o.n ∧ en' = true ∧ why' = 51) ∨ (¬ (o.cur : Int) < cellN ws o.cur / 4294967296 ∧ ¬ 4294967295 < cntN (cellN ws o.cur) (o.cur : Int) + o.n ∧ en' = false ∧ why' = 0)),
          DocN ws.length t' (stepN ws o) ⟨1, t', o.n, false, true, cellN ws o.cur, 0, en', 0, why'⟩ → Calls Try.prog 12 #[.agg #[.int .i64 wd, .slice A ws.length c], .agg (DN.cells ⟨o.k, t', o.n, false, false, saw, 0, false, 0, 0⟩).toArray] w (StepD W w wd ws o t') := fun {en'} {why'} hout hdoc => by
        have hc := dadd_load (c := c) (saw := saw) hL hp hl hw hw2 ht hf1 rfl hx hux hout
        rw [show DN.cells ⟨o.k, t', o.n, false, false, saw, 0, false, 0, 0⟩ = undN 1 t' o.n false false saw 0 false 0 0 from by unfold DN.cells; rw [hk]]
        refine hc.mono ?_
        rintro e w' ⟨rfl, hb⟩
        exact same (x' := ⟨1, t', o.n, false, true, cellN ws o.cur, 0, en', 0, why'⟩) rfl hb hw0 hdd.symm hdoc
      by_cases c1 : (o.cur : Int) < cellN ws o.cur / 4294967296
      · have hs : stepN ws o = { o with ph := 2, ans := 0, why := 50 } := by unfold stepN; rw [if_pos h0, if_pos hk, if_pos c1]
        refine fin (.inl ⟨c1, rfl, rfl⟩) ?_
        rw [hs]
        exact ⟨hk.symm, rfl, rfl, rfl, fun _ e => by simp at e, fun e => by simp at e, fun e => by simp [hk] at e, fun _ => ⟨rfl, fun e => by simp at e, fun _ => rfl⟩⟩
      · by_cases c2 : 4294967295 < cntN (cellN ws o.cur) (o.cur : Int) + o.n
        · have hs : stepN ws o = { o with ph := 2, ans := 0, why := 51 } := by unfold stepN; rw [if_pos h0, if_pos hk, if_neg c1, if_pos c2]
          refine fin (.inr (.inl ⟨c1, c2, rfl, rfl⟩)) ?_
          rw [hs]
          exact ⟨hk.symm, rfl, rfl, rfl, fun _ e => by simp at e, fun e => by simp at e, fun e => by simp [hk] at e, fun _ => ⟨rfl, fun e => by simp at e, fun _ => rfl⟩⟩
        · have hs : stepN ws o = { o with ph := 1, saw := cellN ws o.cur, put := wordN (o.cur : Int) (cntN (cellN ws o.cur) (o.cur : Int) + o.n), ans := cntN (cellN ws o.cur) (o.cur : Int) + o.n } := by unfold stepN; rw [if_pos h0, if_pos hk, if_neg c1, if_neg c2]
          refine fin (.inr (.inr ⟨c1, c2, rfl, rfl⟩)) ?_
          rw [hs]
          exact ⟨hk.symm, rfl, rfl, rfl, fun _ _ => ⟨rfl, rfl, rfl, rfl, rfl⟩, fun _ => ⟨rfl, rfl, rfl, by simp only; omega⟩, fun e => by simp [hk] at e, fun e => by simp at e⟩
    · have h1 : o.ph = 1 := by omega
      have hld1 : ld = true := by rw [hld]; simp [h1]
      subst hld1
      obtain ⟨rfl, hput, hans, hct⟩ := d6 h1
      by_cases hne : cellN ws o.cur = o.saw
      · have hs : stepN ws o = { o with ph := 2, why := 0 } := by unfold stepN; rw [if_neg h0, if_pos h1, if_pos hne]
        have hws : stepNW ws o = ws.set (o.cur % ws.length) o.put := by unfold stepNW; rw [if_pos ⟨h1, hne⟩]
        have hdd : didN ws o = .agg #[.int .u8 5, .int .i64 ((o.cur % ws.length : Nat) : Int), .int .u64 (cellN ws o.cur), .int .u64 o.put, .bool true] := by unfold didN; rw [if_neg h0, if_pos h1, if_pos hne]
        have hc := dadd_hit (c := c) (cnt := o.ans) (y := o.put) hL hp hl hw hw2 ht hf1 rfl hx hux rfl (by rw [hne]; exact hans.symm) (by omega) (by rw [hput, hans]) rfl
        rw [hne] at hc
        rw [show DN.cells ⟨o.k, t', o.n, false, true, o.saw, 0, false, 0, 0⟩ = undN 1 t' o.n false true o.saw 0 false 0 0 from by unfold DN.cells; rw [hk]]
        refine hc.mono ?_
        rintro e w' ⟨g5, c5, rfl, hg5, ho5, hb⟩
        refine ⟨some ⟨g5, 0, none⟩, c5, ⟨1, t', o.n, false, false, o.saw, 0, true, o.ans, 0⟩, by rw [hdd, hne]; rfl, by rw [hws]; exact ownsRow_base ho5 hlow, ?_, hb⟩
        rw [hs]
        exact ⟨hk.symm, rfl, rfl, rfl, fun _ e => by simp at e, fun e => by simp at e, fun e => by simp [hk] at e, fun _ => ⟨rfl, fun _ => rfl, fun e => by simp at e⟩⟩
      · have hs : stepN ws o = { o with ph := 0 } := by unfold stepN; rw [if_neg h0, if_pos h1, if_neg hne]
        have hdd : didN ws o = .agg #[.int .u8 5, .int .i64 ((o.cur % ws.length : Nat) : Int), .int .u64 (cellN ws o.cur), .int .u64 (cellN ws o.cur), .bool false] := by unfold didN; rw [if_neg h0, if_pos h1, if_neg hne]
        have hc := dadd_miss (c := c) hL hp hl hw hw2 ht hf1 rfl hx hux hne
        rw [show DN.cells ⟨o.k, t', o.n, false, true, o.saw, 0, false, 0, 0⟩ = undN 1 t' o.n false true o.saw 0 false 0 0 from by unfold DN.cells; rw [hk]]
        refine hc.mono ?_
        rintro e w' ⟨rfl, hb⟩
        refine same (x' := ⟨1, t', o.n, false, false, o.saw, 0, false, 0, 0⟩) rfl hb (by unfold stepNW; rw [if_neg (by simp [hne])]) hdd.symm ?_
        rw [hs]
        exact ⟨hk.symm, rfl, rfl, rfl, fun _ _ => ⟨rfl, rfl, rfl, rfl, rfl⟩, fun e => by simp at e, fun e => by simp [hk] at e, fun e => by simp at e⟩
  · obtain ⟨rfl, rfl, rfl, rfl, hnx⟩ := d7 hk h2
    have h0 : o.ph = 0 := by
      by_cases h1 : o.ph = 1
      · have := (ho.one h1).1; omega
      · omega
    have hn0 : o.n = 0 := by
      rcases hf.kind with e | ⟨_, e⟩
      · omega
      · exact e
    have hf2 := hf
    rw [hk, hn0] at hf2
    obtain ⟨s0, s1⟩ := ho.sum hk h0
    have hw0 : stepNW ws o = ws := by unfold stepNW; rw [if_neg (by omega)]
    have hdd : didN ws o = .agg #[.int .u8 1, .int .i64 ((o.cur % ws.length : Nat) : Int), .int .u64 (cellN ws o.cur), .int .u64 (cellN ws o.cur), .bool true] := by unfold didN; rw [if_pos h0]
    have hc := dstep_sum (c := c) (bg := bg) (nx := nx) (cur := o.cur) (sm := o.ans) rfl hL hp hl hw hf2 ho.cur hnx rfl hx hux s0 (by omega) rfl
    rw [show DN.cells ⟨o.k, t', o.n, bg, false, 0, nx, false, o.ans, 0⟩ = undN 2 t' 0 bg false 0 nx false o.ans 0 from by unfold DN.cells; rw [hk, hn0]]
    refine hc.mono ?_
    rintro e w' ⟨rfl, hb⟩
    refine same (x' := ⟨2, t', 0, true, false, 0, (o.cur : Int) + 1, decide ((o.q : Int) < (o.cur : Int) + 1), o.ans + cntN (cellN ws o.cur) (o.cur : Int), 0⟩) rfl hb hw0 hdd.symm ?_
    by_cases hl : o.cur = o.q
    · have hs : stepN ws o = { o with ph := 2, ans := o.ans + cntN (cellN ws o.cur) (o.cur : Int), why := 0 } := by unfold stepN; rw [if_pos h0, if_neg (by omega), if_pos hl]
      rw [hs]
      exact ⟨hk.symm, rfl, hn0.symm, by simp; omega, fun e => by simp [hk] at e, fun e => by simp at e, fun _ e => by simp at e, fun _ => ⟨rfl, fun _ => rfl, fun e => by simp at e⟩⟩
    · have hs : stepN ws o = { o with cur := o.cur + 1, ans := o.ans + cntN (cellN ws o.cur) (o.cur : Int) } := by unfold stepN; rw [if_pos h0, if_neg (by omega), if_neg hl]
      have := ho.cur
      rw [hs]
      exact ⟨hk.symm, rfl, hn0.symm, by simp [h0]; omega, fun e => by simp [hk] at e, fun e => by simp [h0] at e, fun _ _ => ⟨rfl, rfl, rfl, rfl, .inl ⟨rfl, by simp⟩⟩, fun e => by simp [h0] at e⟩
end Go.Proofs.Ytjehcgeodcpcaaa
