/- A SUM THAT IS STEPPED AMONG ADDS: WHAT LIES BETWEEN; AND 'counted'. -/
import Derived.Test.YtjehcgeodcpcaaaLf
namespace Go.Proofs.Ytjehcgeodcpcaaa
open Go Go.RowKit

theorem sum_le_get : ∀ {X Y : List Int}, X.length = Y.length → (∀ (i : Nat) (x y : Int), X[i]? = some x → Y[i]? = some y → x ≤ y) → X.sum ≤ Y.sum
  | [], [], _, _ => by simp
  | [], _ :: _, h, _ => by simp at h
  | _ :: _, [], h, _ => by simp at h
  | x :: X, y :: Y, h, hl => by
    have h0 := hl 0 x y rfl rfl
    have ih := sum_le_get (X := X) (Y := Y) (by simpa using h) fun i a b ha hb => hl (i + 1) a b (by simpa using ha) (by simpa using hb)
    simp only [List.sum_cons]
    omega
/-- what those come to that have ended, and those that have begun, one by one -/
def doneE (os : List OpN) : List Int := os.map fun o => if o.ph = 2 then o.n else 0
def begE (l : List (Int × Int × Int)) (bg : List Bool) : List Int := List.zipWith (fun op b => if b then op.2.2 else 0) l bg
/-- adds, their numbers, and which have begun -/
structure PairN (l : List (Int × Int × Int)) (os : List OpN) (bg : List Bool) : Prop where
  lo : os.length = l.length
  lb : bg.length = l.length
  num : ∀ (i : Nat) (op : Int × Int × Int) (o : OpN), l[i]? = some op → os[i]? = some o → o.n = op.2.2
  beg : ∀ (i : Nat) (o : OpN) (b : Bool), os[i]? = some o → bg[i]? = some b → o.ph = 2 → b = true
  nn : ∀ op ∈ l, 0 ≤ op.2.2
section
variable {l : List (Int × Int × Int)} {os : List OpN} {bg : List Bool}
theorem begE_get {i : Nat} {op : Int × Int × Int} {b : Bool} (h : l[i]? = some op) (hb : bg[i]? = some b) : (begE l bg)[i]? = some (if b then op.2.2 else 0) := by
  unfold begE
  rw [List.getElem?_zipWith, h, hb]
theorem doneE_get {i : Nat} {o : OpN} (h : os[i]? = some o) : (doneE os)[i]? = some (if o.ph = 2 then o.n else 0) := by
  unfold doneE
  rw [List.getElem?_map, h]
  rfl
theorem begE_len (h : PairN l os bg) : (begE l bg).length = l.length := by
  unfold begE
  rw [List.length_zipWith, h.lb]
  omega
theorem PairN.le (h : PairN l os bg) : (doneE os).sum ≤ (begE l bg).sum := by
  refine sum_le_get (by rw [begE_len h]; unfold doneE; rw [List.length_map, h.lo]) fun i x y hx hy => ?_
  have hi : i < l.length := by rw [← begE_len h]; exact lt_of_get hy
  have h1 : l[i]? = some l[i] := List.getElem?_eq_getElem hi
  have h2 : os[i]? = some (os[i]'(by rw [h.lo]; exact hi)) := List.getElem?_eq_getElem _
  have h3 : bg[i]? = some (bg[i]'(by rw [h.lb]; exact hi)) := List.getElem?_eq_getElem _
  rw [doneE_get h2] at hx
  rw [begE_get h1 h3] at hy
  cases hx
  cases hy
  have hn := h.nn _ (List.mem_of_getElem? h1)
  split
  · rename_i e
    rw [if_pos (h.beg i _ _ h2 h3 e), h.num i _ _ h1 h2]
    exact Int.le_refl _
  · split <;> omega
theorem PairN.top (h : PairN l os bg) : (begE l bg).sum ≤ sumM l := by
  refine sum_le_get (by rw [begE_len h, List.length_map]) fun i x y hx hy => ?_
  have hi : i < l.length := by rw [← begE_len h]; exact lt_of_get hx
  have h1 : l[i]? = some l[i] := List.getElem?_eq_getElem hi
  have h3 : bg[i]? = some (bg[i]'(by rw [h.lb]; exact hi)) := List.getElem?_eq_getElem _
  rw [begE_get h1 h3] at hx
  rw [List.getElem?_map, h1] at hy
  cases hx
  cases hy
  have hn := h.nn _ (List.mem_of_getElem? h1)
  show _ ≤ l[i].2.2
  split <;> omega
theorem PairN.begnn (h : PairN l os bg) : ∀ x ∈ begE l bg, 0 ≤ x := by
  intro x hx
  obtain ⟨i, hi⟩ := List.getElem?_of_mem hx
  have hl : i < l.length := by rw [← begE_len h]; exact lt_of_get hi
  have h1 : l[i]? = some l[i] := List.getElem?_eq_getElem hl
  have h3 : bg[i]? = some (bg[i]'(by rw [h.lb]; exact hl)) := List.getElem?_eq_getElem _
  rw [begE_get h1 h3] at hi
  cases hi
  have hn := h.nn _ (List.mem_of_getElem? h1)
  split <;> omega
theorem PairN.donenn (h : PairN l os bg) : ∀ x ∈ doneE os, 0 ≤ x := by
  intro x hx
  obtain ⟨i, hi⟩ := List.getElem?_of_mem hx
  have hl : i < l.length := by rw [← h.lo]; have := lt_of_get hi; unfold doneE at this; rwa [List.length_map] at this
  have h1 : l[i]? = some l[i] := List.getElem?_eq_getElem hl
  have h2 : os[i]? = some (os[i]'(by rw [h.lo]; exact hl)) := List.getElem?_eq_getElem _
  rw [doneE_get h2] at hi
  cases hi
  have hn := h.nn _ (List.mem_of_getElem? h1)
  rw [h.num i _ _ h1 h2]
  split <;> omega
/-- one begins, or steps on -/
theorem PairN.step {q : Nat} {o : OpN} {ws : List Int} (h : PairN l os bg) (ho : os[q]? = some o) : PairN l (os.set q (stepN ws o)) (bg.set q true) := by
  refine ⟨by rw [List.length_set]; exact h.lo, by rw [List.length_set]; exact h.lb, fun i op x hl hx => ?_, fun i x b hx hb he => ?_, h.nn⟩
  · by_cases e : q = i
    · subst e
      rw [List.getElem?_set_self (lt_of_get ho)] at hx
      cases hx
      rw [(stepN_same ws o).2.1]
      exact h.num q op o hl ho
    · rw [List.getElem?_set_ne e] at hx
      exact h.num i op x hl hx
  · by_cases e : q = i
    · subst e
      rw [List.getElem?_set_self (by rw [h.lb, ← h.lo]; exact lt_of_get ho)] at hb
      cases hb
      rfl
    · rw [List.getElem?_set_ne e] at hx hb
      exact h.beg i x b hx hb he
end
theorem sum_done {m K : Nat} : ∀ {os : List OpN}, (∀ o ∈ os, m ≤ o.q ∧ o.q < m + K) → ((List.range K).map fun i => endedN os (m + i)).sum = (doneE os).sum
  | [], _ => sum_map_zero _
  | a :: os, h => by
    have e : (fun i => endedN (a :: os) (m + i)) = fun i => (if a.q = m + i then (if a.ph = 2 then a.n else 0) else 0) + endedN os (m + i) := by
      funext i
      unfold endedN
      rw [List.map_cons, List.sum_cons]
      congr 1
      unfold endT
      by_cases e : a.q = m + i
      · by_cases p : a.ph = 2
        · rw [if_pos ⟨e, p⟩, if_pos e, if_pos p]
        · rw [if_neg (fun x => p x.2), if_pos e, if_neg p]
      · rw [if_neg (fun x => e x.1), if_neg e]
    rw [e, sum_map_add, sum_range_one, if_pos (h a (by simp)), sum_done fun o ho => h o (by simp [ho])]
    rfl
theorem ended_mono {os : List OpN} {ws : List Int} {q : Nat} {o : OpN} (ho : os[q]? = some o) (hn : 0 ≤ o.n) (t : Nat) : endedN os t ≤ endedN (os.set q (stepN ws o)) t := by
  have h := sum_map_set (endT t) (o' := stepN ws o) ho
  unfold endedN
  rw [h]
  have hs := stepN_same ws o
  have : endT t o ≤ endT t (stepN ws o) := by
    unfold endT
    by_cases e : o.q = t ∧ o.ph = 2
    · have h2 : stepN ws o = o := by unfold stepN; rw [if_neg (by omega), if_neg (by omega)]
      rw [h2]
      exact Int.le_refl _
    · rw [if_neg e]
      split
      · rw [hs.2.1]; exact hn
      · omega
  omega
/-- what a function tells of so many ticks -/
def upS (f : Nat → Int) (m j : Nat) : Int := ((List.range j).map fun i => f (m + i)).sum
theorem upS_succ (f : Nat → Int) (m j : Nat) : upS f m (j + 1) = upS f m j + f (m + j) := by
  unfold upS
  rw [List.range_succ, List.map_append, List.sum_append]
  simp
theorem upS_le {f g : Nat → Int} (h : ∀ t, f t ≤ g t) (m : Nat) : ∀ j, upS f m j ≤ upS g m j
  | 0 => by unfold upS; simp
  | j + 1 => by have := upS_le h m j; have := h (m + j); rw [upS_succ, upS_succ]; omega
/-- the sum among the adds: whether it has begun, the low and the high number -/
structure SumN (Q m K n : Nat) (os : List OpN) (s : OpN) (lk : Bool) (low high : Int) : Prop where
  kind : s.k = 2
  tick : s.q = Q
  ph : s.ph = 0 ∨ s.ph = 2
  not : lk = false → s = newN n 2 Q 0
  look : lk = true → ∃ E : Nat → Int, (∀ t, E t ≤ endedN os t) ∧ low = upS E m K ∧ ((s.ph = 0 ∧ (m ≤ s.cur ∧ s.cur ≤ Q) ∧ upS E m (s.cur - m) ≤ s.ans ∧ s.ans ≤ upS (endedN os) m (s.cur - m)) ∨ (s.ph = 2 ∧ low ≤ s.ans ∧ s.ans ≤ high ∧ s.why = 0))
section
variable {Q m K n : Nat} {os : List OpN} {s : OpN} {lk : Bool} {low high : Int}
theorem SumN.new : SumN Q m K n os (newN n 2 Q 0) false low high := ⟨rfl, rfl, .inl rfl, fun _ => rfl, by simp⟩
theorem SumN.add {q : Nat} {o : OpN} {ws : List Int} (h : SumN Q m K n os s lk low high) (ho : os[q]? = some o) (hn : 0 ≤ o.n) : SumN Q m K n (os.set q (stepN ws o)) s lk low high := by
  refine ⟨h.kind, h.tick, h.ph, h.not, fun e => ?_⟩
  obtain ⟨E, hE, hl, hc⟩ := h.look e
  have hm := ended_mono (ws := ws) ho hn
  refine ⟨E, fun t => Int.le_trans (hE t) (hm t), hl, ?_⟩
  rcases hc with ⟨a, b, c, d⟩ | hc
  · exact .inl ⟨a, b, c, Int.le_trans d (upS_le hm m _)⟩
  · exact .inr hc
theorem SumN.begin {low' : Int} (h : SumN Q m K n os s false low high) (hm : Q + 1 - n = m) (hn : 0 < n) (hl : upS (endedN os) m K = low') : SumN Q m K n os s true low' high := by
  have e := h.not rfl
  have hc : s.cur = m := by rw [e]; show (if (2 : Int) = 1 then Q else Q + 1 - n) = m; rw [if_neg (by omega)]; exact hm
  refine ⟨h.kind, h.tick, h.ph, by simp, fun _ => ⟨endedN os, fun _ => Int.le_refl _, hl.symm, .inl ⟨by rw [e]; rfl, by omega, ?_, ?_⟩⟩⟩
  · rw [hc, Nat.sub_self, e]; exact Int.le_refl _
  · rw [hc, Nat.sub_self, e]; exact Int.le_refl _
/-- the sum steps on -/
theorem SumN.step {ws : List Int} {high' : Int} (h : SumN Q m K n os s true low high) (hst : StillN Q ws os) (hw : ws.length = n) (hm : Q + 1 - n = m) (hK : Q - m + 1 = K) (h2 : s.ph ≠ 2) (hh : upS (endedN os) m K ≤ high') : SumN Q m K n os (stepN ws s) true low high' ∧ stepNW ws s = ws := by
  have h0 : s.ph = 0 := by have := h.ph; omega
  have hk := h.kind
  have hq := h.tick
  refine ⟨?_, if_neg (by omega)⟩
  obtain ⟨E, hE, hl, hc⟩ := h.look rfl
  rcases hc with ⟨_, ⟨b0, b1⟩, c, d⟩ | hc
  · have hcn := (hst.cnt s.cur (by rw [hw, hm]; exact b0) b1).1
    have hEc := hE s.cur
    have e1 := upS_succ E m (s.cur - m)
    have e2 := upS_succ (endedN os) m (s.cur - m)
    rw [show m + (s.cur - m) = s.cur by omega] at e1 e2
    by_cases e : s.cur = s.q
    · have hs : stepN ws s = { s with ph := 2, ans := s.ans + cntN (cellN ws s.cur) (s.cur : Int), why := 0 } := by
        unfold stepN
        rw [if_pos h0, if_neg (by omega), if_pos e]
      have hj : s.cur - m + 1 = K := by omega
      rw [hj] at e1 e2
      rw [hs]
      refine ⟨hk, hq, .inr rfl, by simp, fun _ => ⟨E, hE, hl, .inr ⟨rfl, ?_, ?_, rfl⟩⟩⟩
      · show low ≤ s.ans + _
        omega
      · show s.ans + _ ≤ high'
        omega
    · have hs : stepN ws s = { s with cur := s.cur + 1, ans := s.ans + cntN (cellN ws s.cur) (s.cur : Int) } := by
        unfold stepN
        rw [if_pos h0, if_neg (by omega), if_neg e]
      have hj : s.cur + 1 - m = s.cur - m + 1 := by omega
      rw [hs]
      refine ⟨hk, hq, .inl h0, by simp, fun _ => ⟨E, hE, hl, .inl ⟨h0, by show m ≤ s.cur + 1 ∧ s.cur + 1 ≤ Q; omega, ?_, ?_⟩⟩⟩
      · show upS E m (s.cur + 1 - m) ≤ s.ans + _
        rw [hj]
        omega
      · show s.ans + _ ≤ upS (endedN os) m (s.cur + 1 - m)
        rw [hj]
        omega
  · exact absurd hc.1 h2
end
/-- so many steps are left to the sum -/
def sumLeft (s : OpN) : Nat := if s.ph = 2 then 0 else s.q - s.cur + 1
theorem sumLeft_step {s : OpN} {ws : List Int} (hk : s.k = 2) (h0 : s.ph = 0) (hc : s.cur ≤ s.q) : sumLeft (stepN ws s) + 1 ≤ sumLeft s := by
  have e : sumLeft s = s.q - s.cur + 1 := by unfold sumLeft; rw [if_neg (by omega)]
  rw [e]
  unfold stepN
  rw [if_pos h0, if_neg (by omega)]
  split
  · simp [sumLeft]
  · rename_i hne
    unfold sumLeft
    rw [if_neg (by show ¬ s.ph = 2; omega)]
    show s.q - (s.cur + 1) + 1 + 1 ≤ _
    omega
def bools (bg : List Bool) : List Value := bg.map .bool
theorem bools_get {bg : List Bool} {i : Nat} {b : Bool} (h : bg[i]? = some b) : (bools bg)[i]? = some (.bool b) := by simp [bools, h]
theorem bools_none (n : Nat) : (madeCells (Value.bool false).cells (n * 1)).toList = bools (List.replicate n false) := by
  have e : (Value.bool false).cells = #[.bool false] := rfl
  rw [e, Nat.mul_one, toList_madeCells_one]
  unfold bools
  rw [List.map_replicate]
theorem infoBO : (Try.prog.info? 4).map (fun i => (i.zero, i.size, i.bytes)) = some (some (.bool false), 1, 1) := by kernel_rfl
section
variable {W w w1 w5 : World} {br bk bw : Nat} {wd : Int} {ws : List Int} {os : List OpN} {bs pb : List Nat} {l : List (Int × Int × Int)} {vp vl : Value}
/-- what is stored into the list of flags changes nothing else -/
theorem CrowdN.offB {g n c : Nat} {xs : List Value} (h : CrowdN W br bk bw wd ws os bs pb l vp vl w) (hbg : w.ownsRow W.heap.size 4 1 (.slice (some ⟨g, 0, none⟩) n c) n xs) (hP : Part [g] w w1) : CrowdN W br bk bw wd ws os bs pb l vp vl w1 := by
  have r := h.rng
  have hlo : W.heap.size ≤ g := own_from hbg g rfl
  have k : ∀ {e : TypeId} {size k : Nat} {v : Value} {l : List Value}, w.ownsRow W.heap.size e size v k l → e ≠ 4 → w1.ownsRow W.heap.size e size v k l := fun h0 a1 => own_part h0 hP (fun x hx => by
    refine not_sing ?_
    rintro rfl
    rcases own_apart h0 hbg a1 with e | e
    · rw [hx] at e; cases e
    · rw [hx] at e; exact e rfl)
  refine ⟨r.part hP (not_sing fun e => own_off hbg r.head (by decide) g rfl e.symm) (not_sing fun e => own_off hbg r.words.head (by decide) g rfl e.symm) (not_sing fun e => own_off hbg r.words.row (by decide) g rfl e.symm), k h.ps (by decide), k h.ls (by decide), h.pends.part hP (fun b hb => ?_), h.lo, h.low.trans (hP.below h.low.size (fun x hx => by rw [List.mem_singleton.1 hx]; exact hlo))⟩
  obtain ⟨l', hl⟩ := h.pends.at_ hb
  exact not_sing fun e => own_off hbg hl (by decide) g rfl e.symm
/-- the first operation, in no list -/
theorem CrowdN.lone {k t m : Int} {q bp : Nat} (h : CrowdN W br bk bw wd ws os bs pb l vp vl w) (hf : FineN wd k t m q) (hb5 : Below w.heap.size w w5) (hr5 : Row w5 bp 77 (opNL br (newN ws.length k q m))) (hn : w.heap.size ≤ bp) :
    CrowdN W br bk bw wd ws (os ++ [newN ws.length k q m]) (bs ++ [bp]) pb l vp vl w5 := by
  have hpos := h.rng.pos
  have htop := h.rng.top
  have h5 := h.on hb5
  exact ⟨h5.rng, h5.ps, h5.ls, h.pends.snoc hb5 hr5 hn h.low.size (OkN.new hf.right (by omega) (by omega)), h.lo, h5.low⟩
/-- flags behind a step -/
theorem flags_step {q b n : Nat} {o : OpN} {v vb : Value} {e : Ending} {xs : List Value} (h : CrowdN W br bk bw wd ws os bs pb l vp vl w) (ho : os[q]? = some o) (hb : bs[q]? = some b) (hs : StepsN w br bk bw b wd (stepNW ws o) (stepN ws o) v e w1)
    (hbg : w.ownsRow W.heap.size 4 1 vb n xs) : w1.ownsRow W.heap.size 4 1 vb n xs :=
  own_part hbg hs.2.2.2 (fun r hr => by simp; exact ⟨own_off hbg h.rng.words.row (by decide) r hr, own_off hbg (h.pends.row q o b ho hb) (by decide) r hr⟩)
end
set_option maxRecDepth 100000
set_option maxHeartbeats 6400000
/-- counted, of those that have ended -/
theorem counted_ended {W w : World} {br bk bw : Nat} {wd : Int} {ws : List Int} {s : OpN} {os : List OpN} {bg : List Bool} {b0 : Nat} {pb : List Nat} {l : List (Int × Int × Int)} {al ap ab : Option Addr} {cl cp cb : Nat} {T : Int} (h : CrowdN W br bk bw wd ws (s :: os) (b0 :: pb) pb l (.slice ap pb.length cp) (.slice al l.length cl) w) (hp : PairN l os bg) (hT : (doneE os).sum = T) (hT2 : T ≤ 4294967295) (hl : l.length ≤ 5864062014634) :
    Calls Try.prog 24 #[.slice al l.length cl, .slice ap pb.length cp, .slice ab l.length cb, .bool true] w fun e w' => e = .returned (.int .u64 T) ∧ Below w.heap.size w w' := by
  have H := Lib.hid h
  have HP := Lib.hid hp
  have HTT := Lib.hid hT
  have HNN := Lib.hid (sum_take hp.donenn)
  have HPL : Hid (pb.length = l.length) := Lib.hid (by have := h.pends.len; simp at this; have := hp.lo; omega)
  clear h hp hT
  go_enter Try.func24, Try.ntmps24
  go_wp2
  go_loopw [9, 14] (fun tt i wx => ∃ j : Nat, j ≤ l.length ∧ i = .int .i64 j ∧ tt = .int .u64 ((doneE os).take j).sum ∧ Below w.heap.size w wx) (fun _ i _ => l.length - (intOf i).toNat)
  case atStart => exact ⟨0, Nat.zero_le _, rfl, rfl, Below.refl _ _⟩
  case round =>
    obtain ⟨j, hj, rfl, rfl, hb⟩ := hrel
    have HB := Lib.hid hb
    have HC := Lib.hid (H.out.on hb)
    clear hb
    by_cases hlt : j < l.length
    · obtain ⟨op, hop⟩ : ∃ op, l[j]? = some op := ⟨l[j], List.getElem?_eq_getElem hlt⟩
      obtain ⟨gl, cl2, hvl, _, _⟩ := own_some HC.out.ls (by omega)
      cases hvl
      obtain ⟨e0, e1, e2, hbl⟩ := HC.out.cells hop
      have hjb : j < pb.length := by rw [HPL.out]; exact hlt
      obtain ⟨bp, gp, cp2, hbq, hvp, pc, gplt⟩ := HC.out.get hjb
      cases hvp
      have hbq' : (b0 :: pb)[j + 1]? = some bp := by simpa using hbq
      obtain ⟨o, ho, hrow, hok⟩ := HC.out.op hbq'
      have ho' : os[j]? = some o := by simpa using ho
      have hlt2 : (j : Int) < (l.length : Int) := by omega
      have hjb2 : (j : Int) < (pb.length : Int) := by omega
      have hj3 : j * 3 ≤ 17592186043902 := by omega
      have hnum := HP.out.num j op o hop ho'
      have hde := doneE_get ho'
      have hts := take_sum_succ hde
      have hs0 := (HNN.out j)
      have hs1 := (HNN.out (j + 1))
      rw [HTT.out] at hs0 hs1
      obtain ⟨k, t, m⟩ := op
      dsimp only at e0 e1 e2 hnum
      obtain ⟨S, hS⟩ : ∃ S, ((doneE os).take j).sum = S := ⟨_, rfl⟩
      rw [hS] at hts hs0 ⊢
      rw [hts] at hs1
      have s0 := hs0.1
      have s1 := hs0.2
      have HO := Lib.hid (Row.new wr 39 [.int .u8 k, .int .i64 t, .int .u64 m])
      have HA := Lib.hid (HC.out.on (below_alloc (.cells #[.int .u8 k, .int .i64 t, .int .u64 m] 39)))
      have HROW := Lib.hid (hrow.alloc (.cells #[.int .u8 k, .int .i64 t, .int .u64 m] 39))
      have HPH := Lib.hid hok.ph
      have o2 := HO.out.cell 2
      have olt := HO.out.lt
      have HTS := Lib.hid hts
      by_cases h2 : o.ph = 2
      · rw [if_pos h2] at hs1
        have HD : Hid (decide (o.ph = 2) = true) := Lib.hid (by simpa using h2)
        have hsm : S + m ≤ 4294967295 := by omega
        have hm0 : 0 ≤ m := by have := HP.out.nn _ (List.mem_of_getElem? hop); exact this
        have HTE : Hid (((doneE os).take (j + 1)).sum = S + m) := Lib.hid (by rw [hts, if_pos h2, hnum])
        clear hop hbq hbq' ho ho' hrow hok hnum hde hts hs0 hs1 hS h2
        go_wp2_with (go_at_call 16; refine (ndone_op HROW.out HPH.out).mono ?_; rw [HD.out]; rintro e w5 ⟨rfl, rfl⟩)
        go_roundw
        case rel => exact ⟨j + 1, by omega, by go_num, by rw [HTE.out], below_more HB.out _⟩
        case measure => simp [intOf]; omega
      · have HD : Hid (decide (o.ph = 2) = false) := Lib.hid (by simpa using h2)
        have HTE : Hid (((doneE os).take (j + 1)).sum = S) := Lib.hid (by rw [hts, if_neg h2]; omega)
        clear hop hbq hbq' ho ho' hrow hok hnum hde hts hs0 hs1 hS h2
        go_wp2_with (go_at_call 16; refine (ndone_op HROW.out HPH.out).mono ?_; rw [HD.out]; rintro e w5 ⟨rfl, rfl⟩)
        go_roundw
        case rel => exact ⟨j + 1, by omega, by go_num, by rw [HTE.out], below_more HB.out _⟩
        case measure => simp [intOf]; omega
    · obtain rfl : j = l.length := by omega
      have ht : (doneE os).take l.length = doneE os := by rw [← HP.out.lo, show os.length = (doneE os).length by unfold doneE; simp, List.take_length]
      rw [ht, HTT.out]
      go_wp2
      go_ret
      exact ⟨rfl, HB.out⟩
/-- counted, of those that have begun -/
theorem counted_begun {W w : World} {br bk bw : Nat} {wd : Int} {ws : List Int} {s : OpN} {os : List OpN} {bg : List Bool} {b0 : Nat} {pb : List Nat} {l : List (Int × Int × Int)} {al ap ab : Option Addr} {cl cp cb : Nat} {T : Int} (h : CrowdN W br bk bw wd ws (s :: os) (b0 :: pb) pb l (.slice ap pb.length cp) (.slice al l.length cl) w) (hbg : w.ownsRow W.heap.size 4 1 (.slice ab l.length cb) l.length (bools bg)) (hp : PairN l os bg) (hT : (begE l bg).sum = T) (hT2 : T ≤ 4294967295) (hl : l.length ≤ 5864062014634) :
    Calls Try.prog 24 #[.slice al l.length cl, .slice ap pb.length cp, .slice ab l.length cb, .bool false] w fun e w' => e = .returned (.int .u64 T) ∧ Below w.heap.size w w' := by
  have H := Lib.hid h
  have HBG := Lib.hid hbg
  have HP := Lib.hid hp
  have HTT := Lib.hid hT
  have HNN := Lib.hid (sum_take hp.begnn)
  have HPL : Hid (pb.length = l.length) := Lib.hid (by have := h.pends.len; simp at this; have := hp.lo; omega)
  clear h hp hT hbg
  go_enter Try.func24, Try.ntmps24
  go_wp2
  go_loopw [9, 14] (fun tt i wx => ∃ j : Nat, j ≤ l.length ∧ i = .int .i64 j ∧ tt = .int .u64 ((begE l bg).take j).sum ∧ Below w.heap.size w wx) (fun _ i _ => l.length - (intOf i).toNat)
  case atStart => exact ⟨0, Nat.zero_le _, rfl, rfl, Below.refl _ _⟩
  case round =>
    obtain ⟨j, hj, rfl, rfl, hb⟩ := hrel
    have HB := Lib.hid hb
    have HC := Lib.hid (H.out.on hb)
    have HG := Lib.hid (own_part HBG.out (Part.of_below hb (Nat.le_refl _) []) (by simp))
    clear hb
    by_cases hlt : j < l.length
    · obtain ⟨op, hop⟩ : ∃ op, l[j]? = some op := ⟨l[j], List.getElem?_eq_getElem hlt⟩
      obtain ⟨gl, cl2, hvl, _, _⟩ := own_some HC.out.ls (by omega)
      cases hvl
      obtain ⟨gb, cb2, hvb, _, gblt⟩ := own_some HG.out (by omega)
      cases hvb
      obtain ⟨e0, e1, e2, hbl⟩ := HC.out.cells hop
      obtain ⟨b, hb⟩ : ∃ b, bg[j]? = some b := ⟨bg[j]'(by rw [HP.out.lb]; exact hlt), List.getElem?_eq_getElem _⟩
      have c0 := own_cell HG.out (bools_get hb)
      have hlt2 : (j : Int) < (l.length : Int) := by omega
      have hj3 : j * 3 ≤ 17592186043902 := by omega
      have hde := begE_get hop hb
      have hts := take_sum_succ hde
      have hs0 := (HNN.out j)
      have hs1 := (HNN.out (j + 1))
      rw [HTT.out] at hs0 hs1
      obtain ⟨k, t, m⟩ := op
      dsimp only at e0 e1 e2 hts
      obtain ⟨S, hS⟩ : ∃ S, ((begE l bg).take j).sum = S := ⟨_, rfl⟩
      rw [hS] at hts hs0 ⊢
      rw [hts] at hs1
      have s0 := hs0.1
      have s1 := hs0.2
      have HO := Lib.hid (Row.new wr 39 [.int .u8 k, .int .i64 t, .int .u64 m])
      have HA := Lib.hid (HC.out.on (below_alloc (.cells #[.int .u8 k, .int .i64 t, .int .u64 m] 39)))
      have o2 := HO.out.cell 2
      have olt := HO.out.lt
      have hm0 : 0 ≤ m := by have := HP.out.nn _ (List.mem_of_getElem? hop); exact this
      cases b with
      | true =>
        have HTE : Hid (((begE l bg).take (j + 1)).sum = S + m) := Lib.hid (by rw [hts]; rfl)
        have hsm : S + m ≤ 4294967295 := by have h9 := hs1.2; simp only [if_true] at h9; omega
        clear hop hb hde hts hs0 hs1 hS
        go_wp2
        go_roundw
        case rel => exact ⟨j + 1, by omega, by go_num, by rw [HTE.out], below_more HB.out _⟩
        case measure => simp [intOf]; omega
      | false =>
        have HTE : Hid (((begE l bg).take (j + 1)).sum = S) := Lib.hid (by rw [hts]; simp)
        clear hop hb hde hts hs0 hs1 hS
        go_wp2
        go_roundw
        case rel => exact ⟨j + 1, by omega, by go_num, by rw [HTE.out], below_more HB.out _⟩
        case measure => simp [intOf]; omega
    · obtain rfl : j = l.length := by omega
      have ht : (begE l bg).take l.length = begE l bg := by rw [← begE_len HP.out, List.take_length]
      rw [ht, HTT.out]
      go_wp2
      go_ret
      exact ⟨rfl, HB.out⟩
end Go.Proofs.Ytjehcgeodcpcaaa
