/- A CROWD OF ADDS IN MEMORY; HOW EACH COMES TO ITS END; WHAT A SUM BEHIND ALL TELLS. -/
import Derived.Test.YtjehcgeodcpcaaaLc
import Derived.Test.YtjehcgeodcpcaaaLd
namespace Go.Proofs.Ytjehcgeodcpcaaa
open Go Go.RowKit

theorem own_base {w : World} {base base' n size : Nat} {e : TypeId} {v : Value} {xs : List Value} (h : w.ownsRow base e size v n xs) (hb : base' ≤ base) : w.ownsRow base' e size v n xs := by
  obtain ⟨h1, h2⟩ := h
  refine ⟨h1, ?_⟩
  rcases h2 with h2 | ⟨g, cap, cur, hv, hg, hh, r⟩
  · exact Or.inl h2
  · exact Or.inr ⟨g, cap, cur, hv, Nat.le_trans hb hg, hh, r⟩
/-- the ring, operations under way (all of them: bs; those in the list of pointers: pb), and the list of adds -/
structure CrowdN (W : World) (br bk bw : Nat) (wd : Int) (ws : List Int) (os : List OpN) (bs pb : List Nat) (l : List (Int × Int × Int)) (vp vl : Value) (w : World) : Prop where
  rng : Rng w br bk bw wd ws
  ps : w.ownsRow W.heap.size 40 1 vp pb.length (ptrs pb)
  ls : w.ownsRow W.heap.size 39 3 vl l.length (opCells l)
  pends : PendsN w W.heap.size br os bs
  lo : W.heap.size ≤ bw
  low : Below W.heap.size W w
section
variable {W w w1 w5 w6 : World} {br bk bw : Nat} {wd : Int} {ws : List Int} {os : List OpN} {bs pb : List Nat} {l : List (Int × Int × Int)} {vp vl vp2 : Value}
theorem CrowdN.on (h : CrowdN W br bk bw wd ws os bs pb l vp vl w) (hb : Below w.heap.size w w1) : CrowdN W br bk bw wd ws os bs pb l vp vl w1 :=
  have p := Part.of_below hb (Nat.le_refl _) []
  ⟨h.rng.on hb, own_part h.ps p (by simp), own_part h.ls p (by simp), h.pends.part p (by simp), h.lo, h.low.trans (hb.mono h.low.size)⟩
theorem CrowdN.code {q b : Nat} {o : OpN} {v : Value} {e : Ending} (h : CrowdN W br bk bw wd ws os bs pb l vp vl w) (ho : os[q]? = some o) (hb : bs[q]? = some b)
    (hs : StepsN w br bk bw b wd (stepNW ws o) (stepN ws o) v e w1) : CrowdN W br bk bw wd (stepNW ws o) (os.set q (stepN ws o)) bs pb l vp vl w1 := by
  obtain ⟨_, hR, hr, hP⟩ := hs
  have hrow := h.pends.row q o b ho hb
  have hlo := h.pends.lo b (List.mem_of_getElem? hb)
  have k : ∀ {e : TypeId} {size k : Nat} {v : Value} {l : List Value}, w.ownsRow W.heap.size e size v k l → e ≠ 106 → e ≠ 77 → w1.ownsRow W.heap.size e size v k l :=
    fun h0 a1 a2 => own_part h0 hP (fun r hr => by simp; exact ⟨own_off h0 h.rng.words.row a1 r hr, own_off h0 hrow a2 r hr⟩)
  refine ⟨hR, k h.ps (by decide) (by decide), k h.ls (by decide) (by decide), h.pends.step hb hr hP (fun x hx => ?_) ((h.pends.ok o (List.mem_of_getElem? ho)).step (fun t => h.rng.words.cell64 h.rng.pos t)), h.lo, h.low.trans (hP.below h.low.size (by have := h.lo; simp; omega))⟩
  obtain ⟨l', hl⟩ := h.pends.at_ hx
  exact hl.ne h.rng.words.row (by decide)
/-- one more -/
theorem CrowdN.grow {k t m : Int} {q bp : Nat} {ob : Obj} (h : CrowdN W br bk bw wd ws os bs pb l vp vl w) (hf : FineN wd k t m q) (hb5 : Below w.heap.size w w5) (hr5 : Row w5 bp 77 (opNL br (newN ws.length k q m))) (hn : w.heap.size ≤ bp)
    (h6 : w6.ownsRow W.heap.size 40 1 vp2 (pb.length + 1) (ptrs pb ++ [.pointer (some ⟨bp, 0, none⟩)])) (hg6 : (w5.alloc ob).grownBy w6 vp.ownBlock) :
    CrowdN W br bk bw wd ws (os ++ [newN ws.length k q m]) (bs ++ [bp]) (pb ++ [bp]) l vp2 vl w6 := by
  have hpos := h.rng.pos
  have htop := h.rng.top
  have h5 := h.on hb5
  have hp5 := h.pends.snoc hb5 hr5 hn h.low.size (OkN.new hf.right (by omega) (by omega))
  have sh : ∀ {b : Nat} {t : TypeId} {l : List Value}, Row w5 b t l → 40 ≠ t → Row w6 b t l := fun hrow n1 => (hrow.alloc ob).grown hg6 (own_not_in h5.ps hrow n1)
  have r5 := h5.rng
  refine ⟨⟨sh r5.head (by decide), ⟨sh r5.words.head (by decide), sh r5.words.row (by decide), r5.words.few, r5.words.ok⟩, r5.pos, r5.top, r5.wid⟩, ?_, (h5.ls.alloc ob).kept hg6 (own_apart h5.ls h5.ps (by decide)), ⟨hp5.len, fun p x b hx hb => sh (hp5.row p x b hx hb) (by decide), hp5.nodup, hp5.lo, hp5.ok⟩, h.lo, (h5.low.alloc h5.low.size ob).grown hg6 (by have := h5.low.size; simp; omega) (own_from h5.ps)⟩
  rw [List.length_append, List.length_singleton, ← ptrs_snoc]
  exact h6
theorem CrowdN.get {q : Nat} (h : CrowdN W br bk bw wd ws os bs pb l vp vl w) (hq : q < pb.length) : ∃ b gp cp, pb[q]? = some b ∧ vp = .slice (some ⟨gp, 0, none⟩) pb.length cp ∧ w.cell? ⟨gp, q, none⟩ = some (.pointer (some ⟨b, 0, none⟩)) ∧ gp < w.heap.size := by
  obtain ⟨gp, cp, rfl, _, hgp⟩ := own_some h.ps (by omega)
  have h2 : pb[q]? = some pb[q] := List.getElem?_eq_getElem hq
  exact ⟨_, gp, cp, h2, rfl, own_cell h.ps (ptrs_get h2), hgp⟩
theorem CrowdN.op {q b : Nat} (h : CrowdN W br bk bw wd ws os bs pb l vp vl w) (hb : bs[q]? = some b) : ∃ o, os[q]? = some o ∧ Row w b 77 (opNL br o) ∧ OkN o := by
  have h1 : os[q]? = some (os[q]'(by rw [← h.pends.len]; exact lt_of_get hb)) := List.getElem?_eq_getElem _
  exact ⟨_, h1, h.pends.row q _ _ h1 hb, h.pends.ok _ (List.mem_of_getElem? h1)⟩
/-- one of the list of adds -/
theorem CrowdN.cells {q g c : Nat} {op : Int × Int × Int} (h : CrowdN W br bk bw wd ws os bs pb l vp (.slice (some ⟨g, 0, none⟩) l.length c) w) (hq : l[q]? = some op) : w.cell? ⟨g, q * 3, none⟩ = some (.int .u8 op.1) ∧ w.cell? ⟨g, q * 3 + 1, none⟩ = some (.int .i64 op.2.1) ∧ w.cell? ⟨g, q * 3 + 2, none⟩ = some (.int .u64 op.2.2) ∧ g < w.heap.size := by
  obtain ⟨h0, h1, h2⟩ := opCells_get hq
  exact ⟨own_cell h.ls h0, own_cell h.ls h1, own_cell h.ls h2, own_block h.ls g rfl⟩
end
/-- the operation of an add -/
def newOp (wd : Int) (n : Nat) (op : Int × Int × Int) : OpN := newN n 1 (op.2.1 / wd).toNat op.2.2
theorem NearOK.fine {wd : Int} {n : Nat} {l : List (Int × Int × Int)} {tot lo hi : Int} {op : Int × Int × Int} (h : NearOK wd n l tot lo hi) (hw : 1 ≤ wd) (ho : op ∈ l) : op.1 = 1 ∧ FineN wd 1 op.2.1 op.2.2 (op.2.1 / wd).toNat ∧ op.2.1 ≤ 9223372036854775807 := by
  obtain ⟨a, b, c, d, _⟩ := h.ops op ho
  have h0 : 0 ≤ op.2.1 / wd := Int.ediv_nonneg b.1 (by omega)
  exact ⟨a, ⟨.inl rfl, b.1, by omega, by omega, d⟩, b.2⟩
/-- the latest moment of a list -/
def LateN (l : List (Int × Int × Int)) (t : Int) : Prop := (0 ≤ t ∧ t ≤ 9223372036854775807) ∧ (∀ op ∈ l, op.2.1 ≤ t) ∧ ((l = [] ∧ t = 0) ∨ ∃ op ∈ l, op.2.1 = t)
theorem LateN.nil : LateN [] 0 := ⟨by omega, by simp, .inl ⟨rfl, rfl⟩⟩
theorem LateN.snoc {l : List (Int × Int × Int)} {t : Int} {op : Int × Int × Int} (h : LateN l t) (h0 : 0 ≤ op.2.1) (h1 : op.2.1 ≤ 9223372036854775807) : LateN (l ++ [op]) (max t op.2.1) := by
  obtain ⟨a, b, c⟩ := h
  refine ⟨by omega, fun x hx => ?_, .inr ?_⟩
  · rcases List.mem_append.1 hx with hx | hx
    · have := b x hx; omega
    · simp at hx; subst hx; omega
  · rcases c with ⟨rfl, rfl⟩ | ⟨x, hx, e⟩
    · exact ⟨op, by simp, by omega⟩
    · by_cases hle : op.2.1 ≤ t
      · exact ⟨x, by simp [hx], by omega⟩
      · exact ⟨op, by simp, by omega⟩
theorem LateN.tick {l : List (Int × Int × Int)} {t wd tot lo hi : Int} {n : Nat} (h : LateN l t) (hw : 1 ≤ wd) (hn : NearOK wd n l tot lo hi) : FineN wd 2 t 0 (t / wd).toNat := by
  obtain ⟨a, b, c⟩ := h
  have h0 : 0 ≤ t / wd := Int.ediv_nonneg a.1 (by omega)
  refine ⟨.inr ⟨rfl, rfl⟩, a.1, by omega, ?_, by omega⟩
  rcases c with ⟨_, rfl⟩ | ⟨x, hx, rfl⟩
  · simp
  · have := (hn.ops x hx).2.2.1; omega
theorem cellN_zero (n t : Nat) : cellN (List.replicate n 0) t = 0 := by
  unfold cellN
  rw [List.getD_eq_getElem?_getD, List.getElem?_replicate]
  split <;> rfl
theorem endedN_zero {os : List OpN} (h : ∀ o ∈ os, o.ph ≠ 2) (t : Nat) : endedN os t = 0 := by
  unfold endedN
  induction os with
  | nil => rfl
  | cons a os ih =>
    have h1 : endT t a = 0 := if_neg (fun e => h a (by simp) e.2)
    rw [List.map_cons, List.sum_cons, h1, ih fun o ho => h o (by simp [ho])]
    rfl
theorem totN_new (wd : Int) (n : Nat) (l : List (Int × Int × Int)) : totN (l.map (newOp wd n)) = sumM l := by
  unfold totN sumM
  rw [List.map_map]
  rfl
theorem StillN.start {wd tot lo hi t : Int} {n : Nat} {l : List (Int × Int × Int)} (hw : 1 ≤ wd) (h1 : 1 ≤ n) (h2 : n ≤ 4096) (hn : NearOK wd n l tot lo hi) (ht : LateN l t) : StillN (t / wd).toNat (List.replicate n 0) (l.map (newOp wd n)) := by
  have hall : ∀ o ∈ l.map (newOp wd n), o.ph = 0 := fun o ho => by
    obtain ⟨op, _, rfl⟩ := List.mem_map.1 ho
    rfl
  refine ⟨by simp; omega, fun o ho => ?_, fun o ho h => ?_, fun o ho h => ?_, ?_, fun q _ _ => ?_, fun u hu => ?_⟩
  · obtain ⟨op, hop, rfl⟩ := List.mem_map.1 ho
    obtain ⟨hk, hf, htt⟩ := hn.fine hw hop
    obtain ⟨a, b, c⟩ := ht
    have hle := Int.ediv_le_ediv (show 0 < wd by omega) (b op hop)
    have h0 : 0 ≤ op.2.1 / wd := Int.ediv_nonneg hf.t0 (by omega)
    refine ⟨OkN.new hf.right (by omega) h2, rfl, ?_, ?_⟩
    · show (t / wd).toNat + 1 - (List.replicate n (0 : Int)).length ≤ (op.2.1 / wd).toNat
      rw [List.length_replicate]
      have hx := hn.ops op hop
      have hwin := hn.win
      rcases c with ⟨rfl, _⟩ | ⟨x, hxm, rfl⟩
      · simp at hop
      · have := hn.ops x hxm
        omega
    · show (op.2.1 / wd).toNat ≤ (t / wd).toNat
      omega
  · have := hall o ho; omega
  · have := hall o ho; omega
  · rw [totN_new, hn.sm]; exact hn.top.2
  · rw [cellN_zero, endedN_zero (fun o ho => by have := hall o ho; omega)]
    refine ⟨?_, by omega⟩
    unfold cntN
    split <;> rfl
  · rw [(List.mem_replicate.1 hu).2]; exact U64.zero
theorem totN_step {ws : List Int} {os : List OpN} {i : Nat} {o : OpN} (h : os[i]? = some o) : totN (os.set i (stepN ws o)) = totN os := by
  have := sum_map_set (·.n) (o' := stepN ws o) h
  unfold totN
  rw [this, (stepN_same ws o).2.1]
  omega
/-- so many steps are left to one that is alone -/
def needN (ws : List Int) (o : OpN) : Nat := if o.ph = 2 then 0 else if o.ph = 0 then 2 else if cellN ws o.cur = o.saw then 1 else 3
theorem needN_le (ws : List Int) (o : OpN) : needN ws o ≤ 3 := by
  unfold needN
  split
  · omega
  · split
    · omega
    · split <;> omega
theorem needN_zero {ws : List Int} {o : OpN} (h : needN ws o = 0) : o.ph = 2 := by
  unfold needN at h
  split at h
  · assumption
  · split at h
    · omega
    · split at h <;> omega
theorem needN_step {ws : List Int} {o : OpN} (hk : o.k = 1) (hp : o.ph ≤ 2) (h2 : o.ph ≠ 2) : needN (stepNW ws o) (stepN ws o) + 1 ≤ needN ws o := by
  by_cases h0 : o.ph = 0
  · have e : needN ws o = 2 := by unfold needN; rw [if_neg h2, if_pos h0]
    have hw : stepNW ws o = ws := if_neg (by omega)
    rw [e, hw]
    unfold stepN
    rw [if_pos h0, if_pos hk]
    split
    · simp [needN]
    · split
      · simp [needN]
      · simp [needN]
  · have h1 : o.ph = 1 := by omega
    by_cases hs : cellN ws o.cur = o.saw
    · have e : needN ws o = 1 := by unfold needN; rw [if_neg h2, if_neg h0, if_pos hs]
      rw [e]
      have : (stepN ws o).ph = 2 := by unfold stepN; rw [if_neg h0, if_pos h1, if_pos hs]
      unfold needN
      rw [if_pos this]
      omega
    · have e : needN ws o = 3 := by unfold needN; rw [if_neg h2, if_neg h0, if_neg hs]
      rw [e]
      have : (stepN ws o).ph = 0 := by unfold stepN; rw [if_neg h0, if_pos h1, if_neg hs]
      unfold needN
      rw [if_neg (by omega), if_pos this]
      omega
theorem sum_range_one (c : Int) (m q : Nat) : ∀ K, ((List.range K).map fun i => if q = m + i then c else 0).sum = if m ≤ q ∧ q < m + K then c else 0
  | 0 => by rw [if_neg (by omega)]; rfl
  | K + 1 => by
    rw [List.range_succ, List.map_append, List.sum_append, sum_range_one c m q K]
    simp only [List.map_cons, List.map_nil, List.sum_cons, List.sum_nil]
    by_cases e : q = m + K
    · rw [if_neg (by omega), if_pos e, if_pos (by omega)]; omega
    · by_cases h : m ≤ q ∧ q < m + K
      · rw [if_pos h, if_neg e, if_pos (by omega)]; omega
      · rw [if_neg h, if_neg e, if_neg (by omega)]; omega
theorem sum_map_add (f g : Nat → Int) : ∀ l : List Nat, (l.map fun i => f i + g i).sum = (l.map f).sum + (l.map g).sum
  | [] => rfl
  | a :: l => by simp only [List.map_cons, List.sum_cons, sum_map_add f g l]; omega
theorem sum_map_zero : ∀ l : List Nat, (l.map fun _ => (0 : Int)).sum = 0
  | [] => rfl
  | a :: l => by simp only [List.map_cons, List.sum_cons, sum_map_zero l]; rfl
theorem sum_ended {m K : Nat} : ∀ {os : List OpN}, (∀ o ∈ os, o.ph = 2 ∧ m ≤ o.q ∧ o.q < m + K) → ((List.range K).map fun i => endedN os (m + i)).sum = totN os
  | [], _ => sum_map_zero _
  | a :: os, h => by
    have e : (fun i => endedN (a :: os) (m + i)) = fun i => (if a.q = m + i then a.n else 0) + endedN os (m + i) := by
      funext i
      unfold endedN
      rw [List.map_cons, List.sum_cons]
      congr 1
      unfold endT
      by_cases e : a.q = m + i
      · rw [if_pos ⟨e, (h a (by simp)).1⟩, if_pos e]
      · rw [if_neg (fun x => e x.1), if_neg e]
    rw [e, sum_map_add, sum_range_one, if_pos (h a (by simp)).2, sum_ended fun o ho => h o (by simp [ho])]
    rfl
/-- what a sum behind all of them tells -/
theorem StillN.total {Q m K : Nat} {ws : List Int} {os : List OpN} (h : StillN Q ws os) (hall : ∀ o ∈ os, o.ph = 2) (hm : Q + 1 - ws.length = m) (hK : Q - m + 1 = K) : (eachN ws m K).sum = totN os := by
  have hp := h.pos
  have e : eachN ws m K = (List.range K).map fun i => endedN os (m + i) := by
    unfold eachN
    apply List.map_congr_left
    intro i hi
    have hi' : i < K := List.mem_range.1 hi
    exact (h.cnt (m + i) (by omega) (by omega)).1
  rw [e]
  exact sum_ended fun o ho => ⟨hall o ho, by have := (h.ok o ho).2.2.1; omega, by have := (h.ok o ho).2.2.2; omega⟩
theorem runN_sums {ws : List Int} : ∀ (d : Nat) (o : OpN), o.k = 2 → o.ph = 0 → o.cur + d = o.q → (runN (d + 1) (ws, o)).2.ans = o.ans + (eachN ws o.cur (d + 1)).sum ∧ (runN (d + 1) (ws, o)).2.why = 0
  | 0, o, hk, h0, hq => by
    have hw : stepNW ws o = ws := if_neg (by omega)
    have hs : stepN ws o = { o with ph := 2, ans := o.ans + cntN (cellN ws o.cur) (o.cur : Int), why := 0 } := by
      unfold stepN
      rw [if_pos h0, if_neg (by omega), if_pos (by omega)]
    show (runN 0 (stepNW ws o, stepN ws o)).2.ans = _ ∧ (runN 0 (stepNW ws o, stepN ws o)).2.why = 0
    rw [hw, hs]
    refine ⟨?_, rfl⟩
    show o.ans + _ = _
    simp [eachN]
  | d + 1, o, hk, h0, hq => by
    have hw : stepNW ws o = ws := if_neg (by omega)
    have hs : stepN ws o = { o with cur := o.cur + 1, ans := o.ans + cntN (cellN ws o.cur) (o.cur : Int) } := by
      unfold stepN
      rw [if_pos h0, if_neg (by omega), if_neg (by omega)]
    have ih := runN_sums (ws := ws) d { o with cur := o.cur + 1, ans := o.ans + cntN (cellN ws o.cur) (o.cur : Int) } hk h0 (by show o.cur + 1 + d = o.q; omega)
    show (runN (d + 1) (stepNW ws o, stepN ws o)).2.ans = _ ∧ (runN (d + 1) (stepNW ws o, stepN ws o)).2.why = 0
    rw [hw, hs]
    refine ⟨ih.1.trans ?_, ih.2⟩
    show o.ans + cntN (cellN ws o.cur) (o.cur : Int) + (eachN ws (o.cur + 1) (d + 1)).sum = o.ans + (eachN ws o.cur (d + 1 + 1)).sum
    have e : eachN ws o.cur (d + 1 + 1) = cntN (cellN ws o.cur) (o.cur : Int) :: eachN ws (o.cur + 1) (d + 1) := by
      unfold eachN
      rw [List.range_succ_eq_map (n := d + 1), List.map_cons, List.map_map]
      congr 1
      apply List.map_congr_left
      intro i _
      show cntN (cellN ws (o.cur + (i + 1))) ((o.cur + (i + 1) : Nat) : Int) = _
      rw [show o.cur + (i + 1) = o.cur + 1 + i by omega]
    rw [e, List.sum_cons]
    omega
theorem doN_sums {ws : List Int} {q m K : Nat} (hm : q + 1 - ws.length = m) (hK : q - m + 1 = K) (hp : 0 < ws.length) : (doN ws 2 q 0).2.ans = (eachN ws m K).sum ∧ (doN ws 2 q 0).2.why = 0 := by
  have h := runN_sums (ws := ws) (q - m) (newN ws.length 2 q 0) rfl rfl (by show (if (2 : Int) = 1 then q else q + 1 - ws.length) + (q - m) = q; rw [if_neg (by omega)]; omega)
  have hc : (newN ws.length 2 q 0).cur = m := by show (if (2 : Int) = 1 then q else q + 1 - ws.length) = m; rw [if_neg (by omega)]; exact hm
  have hmu : muO (newN ws.length 2 q 0) = q - m + 1 := by
    show (if (0 : Nat) = 0 then (if (2 : Int) = 1 then 2 else q - (newN ws.length 2 q 0).cur + 1) else _) = _
    rw [if_pos rfl, if_neg (by omega), hc]
  unfold doN
  rw [hmu]
  rw [hc, hK] at h
  rw [hK]
  refine ⟨h.1.trans ?_, h.2⟩
  show (0 : Int) + _ = _
  omega
theorem eachN_nonneg {ws : List Int} (hu : ∀ t, U64 (cellN ws t)) (m K : Nat) : ∀ x ∈ eachN ws m K, 0 ≤ x := by
  intro x hx
  obtain ⟨i, _, rfl⟩ := List.mem_map.1 hx
  exact (cntN_lo (hu _) _).1
theorem sum_take {l : List Int} (h : ∀ x ∈ l, 0 ≤ x) : ∀ i, 0 ≤ (l.take i).sum ∧ (l.take i).sum ≤ l.sum := by
  induction l with
  | nil => intro i; simp
  | cons a l ih =>
    intro i
    have h0 := h a (by simp)
    have hs := ih (fun x hx => h x (by simp [hx]))
    cases i with
    | zero => have := hs l.length; simp only [List.take_zero, List.sum_nil, List.sum_cons]; rw [List.take_length] at this; omega
    | succ i => have := hs i; simp only [List.take_succ_cons, List.sum_cons]; omega
theorem take_sum_succ {l : List Int} {i : Nat} {x : Int} (h : l[i]? = some x) : (l.take (i + 1)).sum = (l.take i).sum + x := by
  rw [List.take_add_one, h]
  simp
end Go.Proofs.Ytjehcgeodcpcaaa
