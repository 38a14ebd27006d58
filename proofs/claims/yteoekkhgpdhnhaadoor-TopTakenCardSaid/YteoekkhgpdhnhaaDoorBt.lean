/- THE WALK of the law 'QuotaEarly'. -/
import Derived.Test.YteoekkhgpdhnhaaDoorBq
import Derived.Test.YteoekkhgpdhnhaaDoorEx
import Derived.Deep.LoopGhost
namespace Go.Proofs.YteoekkhgpdhnhaaDoor
open Go Go.RowKit
set_option maxRecDepth 100000
set_option maxHeartbeats 1600000
theorem didV_five' (x0 x1 x2 x3 : Int) (x4 : Bool) : didV (x0, x1, x2, x3, x4) = .agg #[.int .u8 x0, .int .i64 x1, .int .u64 x2, .int .u64 x3, .bool x4] := rfl
def ptrS : Option (Nat × OpB) → Value
  | none => .pointer none
  | some p => .pointer (some ⟨p.1, 0, none⟩)
def handS : Option (Nat × OpB) → Int
  | none => 0
  | some p => handC p.2
theorem made_one (v : Value) (hv : v.cells = #[v]) (n : Nat) : (madeCells v.cells (n * 1)).toList = List.replicate n v := by
  apply List.ext_getElem?
  intro i
  simp only [madeCells, hv, Nat.mul_one]
  by_cases h : i < n
  · simp [h, Nat.mod_one]
  · simp [h]
theorem infoBool : (Tryd.prog.info? 4).map (fun i => (i.zero, i.size, i.bytes)) = some (some (.bool false), 1, 1) := by kernel_rfl
/-- what is known of an operation under way, of worker i -/
structure MineB (wr : World) (lo bq n i : Nat) (ws : List Int) (t : Option Bool) (p : Nat × OpB) : Prop where
  row : Row wr p.1 97 (rowB bq p.2)
  ok : OkB (n + 1) p.2
  lo : lo ≤ p.1
  tk : t = some (p.2.k == 1)
  wk : p.2.wk = i
  kk : p.2.k = 1 ∨ p.2.k = 2
  live : ¬ p.2.ph = 9
  hand : HandOk p.2
  zero : zeroC p.2 → ws.getD (i + 1) 0 = 0
/-- one operation a worker under way at a time -/
structure EarlyB (W : World) (bq bk bw : Nat) (ba : Int) (n : Nat) (ws : List Int) (ss : List (Option (Nat × OpB))) (tb : List Bool) (gn gt : Nat) (T limit : Int) (wr : World) : Prop where
  one : OneB W bq bk bw ba n ws wr
  now : Row wr gn 30 (ss.map ptrS)
  tks : Row wr gt 4 (tb.map Value.bool)
  slen : ss.length = n
  tlen : tb.length = n
  op : ∀ (i : Nat) (p : Nat × OpB), ss[i]? = some (some p) → MineB wr W.heap.size bq n i ws tb[i]? p
  apart : ∀ (i j : Nat) (p q : Nat × OpB), ss[i]? = some (some p) → ss[j]? = some (some q) → p.1 = q.1 → i = j
  held : ∀ (i : Nat) (s : Option (Nat × OpB)), ss[i]? = some s → ws.getD (i + 1) 0 + handS s ≤ ba
  sum : ws.sum + (ss.map handS).sum + T = limit
  pos : 0 ≤ T
  lim : limit ≤ 1099511627776
  nlo : W.heap.size ≤ gn
  tlo : W.heap.size ≤ gt
theorem MineB.on {wr w1 : World} {lo bq n i : Nat} {ws : List Int} {t : Option Bool} {p : Nat × OpB} {S : List Nat} (h : MineB wr lo bq n i ws t p) (hp : Part S wr w1) (hS : p.1 ∉ S) : MineB w1 lo bq n i ws t p := ⟨h.row.part hp hS, h.ok, h.lo, h.tk, h.wk, h.kk, h.live, h.hand, h.zero⟩
section
variable {W wr w1 w5 w6 : World} {bq bk bw n gn gt : Nat} {ba T limit : Int} {ws : List Int} {ss : List (Option (Nat × OpB))} {tb : List Bool}
theorem EarlyB.on (h : EarlyB W bq bk bw ba n ws ss tb gn gt T limit wr) (hb : Below wr.heap.size wr w1) : EarlyB W bq bk bw ba n ws ss tb gn gt T limit w1 :=
  ⟨h.one.on hb, h.now.below hb h.now.lt, h.tks.below hb h.tks.lt, h.slen, h.tlen, fun i p hp => (h.op i p hp).on (Part.of_below hb (Nat.le_refl _) []) (by simp), h.apart, h.held, h.sum, h.pos, h.lim, h.nlo, h.tlo⟩
theorem hands_nn (h : EarlyB W bq bk bw ba n ws ss tb gn gt T limit wr) : ∀ x ∈ ss.map handS, 0 ≤ x := fun x hx => by
  obtain ⟨s, hs, rfl⟩ := List.mem_map.1 hx
  obtain ⟨i, hi⟩ := List.getElem?_of_mem hs
  cases s with
  | none => exact Int.le_refl _
  | some p => exact handC_pos (h.op i p hi).hand
theorem EarlyB.bounds (h : EarlyB W bq bk bw ba n ws ss tb gn gt T limit wr) : 0 ≤ ws.sum ∧ 0 ≤ (ss.map handS).sum ∧ T ≤ limit := by
  have h1 := sum_pos (fun x hx => (h.one.quo.words.ok x hx).1)
  have h2 := sum_pos (hands_nn h)
  have h3 := h.sum
  omega
theorem bound_sum (ba : Int) : ∀ (xs ys : List Int), xs.length = ys.length → (∀ (i : Nat) (x y : Int), xs[i]? = some x → ys[i]? = some y → x + y ≤ ba) → xs.sum + ys.sum ≤ xs.length * ba
  | [], [], _, _ => by simp
  | [], _ :: _, h, _ => by simp at h
  | _ :: _, [], h, _ => by simp at h
  | x :: xs, y :: ys, h, hb => by
    have h1 := bound_sum ba xs ys (by simpa using h) (fun i a b ha hb' => hb (i + 1) a b (by simpa using ha) (by simpa using hb'))
    have h2 := hb 0 x y rfl rfl
    simp only [List.sum_cons, List.length_cons]
    have h3 : (((xs.length + 1 : Nat)) : Int) * ba = (xs.length : Int) * ba + ba := by rw [Int.natCast_add, Int.add_mul]; simp
    omega
/-- nothing is in the pool: what is left is with the workers -/
theorem EarlyB.refused (h : EarlyB W bq bk bw ba n ws ss tb gn gt T limit wr) (h0 : ws.getD 0 0 = 0) : limit - T ≤ (n : Int) * ba := by
  have hl := h.one.len
  obtain ⟨y, xs, rfl⟩ : ∃ y xs, ws = y :: xs := by
    cases ws with
    | nil => simp at hl
    | cons y xs => exact ⟨y, xs, rfl⟩
  have hxl : xs.length = n := by simpa using hl
  simp at h0
  subst h0
  have hb := bound_sum ba xs (ss.map handS) (by rw [List.length_map, h.slen, hxl]) (fun i x z hx hz => by
    rw [List.getElem?_map] at hz
    obtain ⟨s, hs, rfl⟩ := Option.map_eq_some_iff.1 hz
    have := h.held i s hs
    simpa [List.getD, hx] using this)
  have hs := h.sum
  simp only [List.sum_cons] at hs
  rw [hxl] at hb
  omega
/-- a worker begins an operation -/
theorem EarlyB.begin_ {k : Int} {i bp : Nat} (h : EarlyB W bq bk bw ba n ws ss tb gn gt T limit wr) (hi : ss[i]? = some none) (hk : k = 1 ∨ k = 2) (hb5 : Below wr.heap.size wr w5) (hr5 : Row w5 bp 97 (rowB bq (newB k i))) (hn : wr.heap.size ≤ bp)
    (hg : Row w6 gn 30 ((ss.map ptrS).set i (.pointer (some ⟨bp, 0, none⟩)))) (ht : Row w6 gt 4 ((tb.map Value.bool).set i (.bool (k == 1)))) (hP : Part [gn, gt] w5 w6) :
    EarlyB W bq bk bw ba n ws (ss.set i (some (bp, newB k i))) (tb.set i (k == 1)) gn gt T limit w6 := by
  have h5 := h.on hb5
  have hin : i < n := by rw [← h.slen]; exact lt_of_get hi
  have ez : handS (some (bp, newB k i)) = 0 := handC_new _ _
  have hq := h5.one.quo
  have key : ∀ {b : Nat} {t : TypeId} {l : List Value}, Row w5 b t l → t ≠ 30 → t ≠ 4 → b ∉ [gn, gt] := fun hr h1 h2 => by simp; exact ⟨hr.ne h5.now h1, hr.ne h5.tks h2⟩
  have hq6 := hq.part hP (key hq.head (by decide) (by decide)) (key hq.words.head (by decide) (by decide)) (key hq.words.row (by decide) (by decide))
  have hlow6 : Below W.heap.size W w6 := h5.one.low.trans (hP.below h5.one.low.size (fun q hq => by have h1 := h.nlo; have h2 := h.tlo; simp at hq; omega))
  refine ⟨⟨hq6, h.one.len, h.one.lo, hlow6⟩, by rw [List.map_set]; exact hg, by rw [List.map_set]; exact ht, by rw [List.length_set]; exact h.slen, by rw [List.length_set]; exact h.tlen, fun j p hp => ?_, fun a b p q hp hq e => ?_, fun j s hs => ?_, ?_, h.pos, h.lim, h.nlo, h.tlo⟩
  · by_cases e : j = i
    · subst e
      rw [List.getElem?_set_self (lt_of_get hi)] at hp
      cases hp
      refine ⟨hr5.part hP (key hr5 (by decide) (by decide)), OkB.new ?_, Nat.le_trans h.one.low.size hn, ?_, rfl, hk, by simp [newB], HandOk.new _ _, fun hz => ?_⟩
      · rcases hk with rfl | rfl
        · exact .inl ⟨rfl, hin⟩
        · exact .inr (.inl ⟨rfl, hin⟩)
      · rw [List.getElem?_set_self (by rw [h.tlen]; exact hin)]; rfl
      · simp [zeroC, newB] at hz
    · rw [List.getElem?_set_ne (fun e' => e e'.symm)] at hp
      rw [List.getElem?_set_ne (fun e' => e e'.symm)]
      have hm := h5.op j p hp
      exact hm.on hP (key hm.row (by decide) (by decide))
  · have fresh : ∀ (a : Nat) (p : Nat × OpB), ss[a]? = some (some p) → p.1 ≠ bp := fun a p hp e => by have := (h.op a p hp).row.lt; omega
    by_cases ea : a = i
    · subst ea
      rw [List.getElem?_set_self (lt_of_get hi)] at hp
      cases hp
      by_cases eb : b = a
      · exact eb.symm
      · rw [List.getElem?_set_ne (fun e' => eb e'.symm)] at hq
        exact absurd e.symm (fresh b q hq)
    · rw [List.getElem?_set_ne (fun e' => ea e'.symm)] at hp
      by_cases eb : b = i
      · subst eb
        rw [List.getElem?_set_self (lt_of_get hi)] at hq
        cases hq
        exact absurd e (fresh a p hp)
      · rw [List.getElem?_set_ne (fun e' => eb e'.symm)] at hq
        exact h.apart a b p q hp hq e
  · by_cases e : j = i
    · subst e
      rw [List.getElem?_set_self (lt_of_get hi)] at hs
      cases hs
      have := h.held j none hi
      rw [ez]; exact this
    · rw [List.getElem?_set_ne (fun e' => e e'.symm)] at hs
      exact h.held j s hs
  · rw [List.map_set, sum_set (x := 0) (by rw [List.getElem?_map, hi]; rfl), ez]
    have := h.sum
    omega
/-- an operation, if it has not ended -/
def goesOn (b : Nat) (o : OpB) : Option (Nat × OpB) := if o.ph = 9 then none else some (b, o)
theorem handS_goes (b : Nat) (o : OpB) : handS (goesOn b o) = handC o := by
  unfold goesOn
  split
  · rw [handC_over (by assumption)]; rfl
  · rfl
/-- a worker's operation is stepped -/
theorem EarlyB.step {i b : Nat} {o : OpB} {e : Ending} (h : EarlyB W bq bk bw ba n ws ss tb gn gt T limit wr) (hi : ss[i]? = some (some (b, o))) (hs : SteppedO wr bq bk bw b ba ws o e w5)
    (hg : Row w6 gn 30 ((ss.map ptrS).set i (ptrS (goesOn b (stepB ba ws o))))) (hP : Part [gn] w5 w6) :
    EarlyB W bq bk bw ba n (stepBW ba ws o) (ss.set i (goesOn b (stepB ba ws o))) tb gn gt (T + takenC (stepB ba ws o)) limit w6 ∧ (o.k = 1 → (stepB ba ws o).ph = 9 → (stepB ba ws o).ans = 0 → (stepBW ba ws o).getD 0 0 = 0) := by
  obtain ⟨_, hq5, hr5, hp5⟩ := hs
  have hm := h.op i _ hi
  have hok1 : OkB ws.length o := by rw [h.one.len]; exact hm.ok
  have hu := h.one.quo.words.ok
  have hba := h.one.quo.lowb
  have hbd := h.bounds
  have hsm := h.sum
  have hps := h.pos
  have hlm := h.lim
  have g1 : (ss.map handS)[i]? = some (handC o) := by rw [List.getElem?_map, hi]; rfl
  have hle := le_sum0 (hands_nn h) g1
  have e0 : takenC o = 0 := by unfold takenC; split <;> simp [hm.live]
  have hst := step_sum hok1 hm.live hm.hand hu (by omega) hba
  have hheld := h.held i _ hi
  have hes := early_step hok1 hm.live hm.hand hu (by omega) hba hm.kk (by rw [hm.wk]; exact hheld) (by rw [hm.wk]; exact hm.zero)
  obtain ⟨s1, s2, s3, s4⟩ := hes
  rw [show o.wk = i from hm.wk] at s1 s2 s3
  have hho' := HandOk.step hok1 hm.live hm.hand hu hba
  have hok' : OkB (n + 1) (stepB ba ws o) := by
    have := hok1.step (ba := ba) hu h.one.quo.least
    rwa [h.one.len] at this
  have nm : ∀ {x : Nat} {t : TypeId} {l : List Value}, Row wr x t l → t ≠ 146 → t ≠ 97 → x ∉ [bw, b] := fun hr h1 h2 => by simp; exact ⟨hr.ne h.one.quo.words.row h1, hr.ne hm.row h2⟩
  have hn5 := h.now.part hp5 (nm h.now (by decide) (by decide))
  have ht5 := h.tks.part hp5 (nm h.tks (by decide) (by decide))
  have key : ∀ {x : Nat} {t : TypeId} {l : List Value}, Row w5 x t l → t ≠ 30 → x ∉ [gn] := fun hr h1 => not_sing (hr.ne hn5 h1)
  have hq6 := hq5.part hP (key hq5.head (by decide)) (key hq5.words.head (by decide)) (key hq5.words.row (by decide))
  have hlow5 : Below W.heap.size W w5 := h.one.low.trans (hp5.below h.one.low.size (fun q hq => by have h1 := h.one.lo; have h2 := hm.lo; simp at hq h2; omega))
  have hlow6 : Below W.heap.size W w6 := hlow5.trans (hP.below hlow5.size (fun q hq => by rw [List.mem_singleton.1 hq]; exact h.nlo))
  obtain ⟨k1, k2⟩ := stepB_same ba ws o
  refine ⟨⟨⟨hq6, (stepBW_length _ _ _).trans h.one.len, h.one.lo, hlow6⟩, by rw [List.map_set]; exact hg, ht5.part hP (key ht5 (by decide)), by rw [List.length_set]; exact h.slen, h.tlen, fun j p hp => ?_, fun a c p q hp hq e => ?_, fun j s hs => ?_, ?_, ?_, h.lim, h.nlo, h.tlo⟩, s4⟩
  · by_cases e : j = i
    · subst e
      rw [List.getElem?_set_self (lt_of_get hi)] at hp
      unfold goesOn at hp
      split at hp
      · cases hp
      · rename_i h9
        cases hp
        refine ⟨hr5.part hP (key hr5 (by decide)), hok', hm.lo, by rw [hm.tk]; dsimp only; rw [k1], by dsimp only; rw [k2]; exact hm.wk, by dsimp only; rw [k1]; exact hm.kk, h9, hho', s2⟩
    · rw [List.getElem?_set_ne (fun e' => e e'.symm)] at hp
      have hmj := h.op j p hp
      have hne : p.1 ≠ b := fun e' => e (h.apart j i p (b, o) hp hi e')
      have hmj5 := hmj.on hp5 (by simp; exact ⟨hmj.row.ne h.one.quo.words.row (by decide), hne⟩)
      have hm6 := hmj5.on hP (key hmj5.row (by decide))
      exact ⟨hm6.row, hm6.ok, hm6.lo, hm6.tk, hm6.wk, hm6.kk, hm6.live, hm6.hand, fun hz => by rw [s3 j e]; exact hm6.zero hz⟩
  · have same : ∀ (a : Nat) (p : Nat × OpB), (ss.set i (goesOn b (stepB ba ws o)))[a]? = some (some p) → ∃ p', ss[a]? = some (some p') ∧ p'.1 = p.1 := fun a p hp => by
      by_cases ea : a = i
      · subst ea
        rw [List.getElem?_set_self (lt_of_get hi)] at hp
        unfold goesOn at hp
        split at hp
        · cases hp
        · cases hp; exact ⟨_, hi, rfl⟩
      · rw [List.getElem?_set_ne (fun e' => ea e'.symm)] at hp
        exact ⟨p, hp, rfl⟩
    obtain ⟨p', hp', e1⟩ := same a p hp
    obtain ⟨q', hq', e2⟩ := same c q hq
    exact h.apart a c p' q' hp' hq' (by rw [e1, e2]; exact e)
  · by_cases e : j = i
    · subst e
      rw [List.getElem?_set_self (lt_of_get hi)] at hs
      cases hs
      rw [handS_goes]; exact s1
    · rw [List.getElem?_set_ne (fun e' => e e'.symm)] at hs
      rw [s3 j e]; exact h.held j s hs
  · rw [List.map_set, sum_set g1, handS_goes]
    omega
  · have := (takenC_pos hho').1
    omega
end
end Go.Proofs.YteoekkhgpdhnhaaDoor
