/- OPERATIONS OF snap THAT ARE ALL UNDER WAY, IN PLAIN WORDS; the statements' own 'under'. -/
import Derived.Test.YtdadgppbpomdoaaPs
import Derived.Test.YtdadgppbpomdoaaPg
namespace Go.Proofs.Ytdadgppbpomdoaa
open Go Go.RowKit

/-- operations under way, each with blocks of its own; X: blocks that are none's -/
structure PendsQ (w : World) (lo bk n : Nat) (X : List Nat) (os : List OpQ) (bs : List Nat) (Fs : List (List Nat)) : Prop where
  len : bs.length = os.length
  flen : Fs.length = os.length
  each : ∀ (q : Nat) (o : OpQ) (b : Nat) (F : List Nat), os[q]? = some o → bs[q]? = some b → Fs[q]? = some F → PendQ w lo bk n b o F
  apart : ∀ (p q : Nat) (F G : List Nat), p ≠ q → Fs[p]? = some F → Fs[q]? = some G → ∀ x ∈ F, x ∉ G
  ok : ∀ o ∈ os, OkQ n o
  off : ∀ F ∈ Fs, ∀ q ∈ F, q ∉ X
  ltX : ∀ x ∈ X, x < w.heap.size
section
variable {w w' : World} {lo bk n : Nat} {X : List Nat} {os : List OpQ} {bs : List Nat} {Fs : List (List Nat)}
theorem PendsQ.nil (w : World) (lo bk n : Nat) {X : List Nat} (hX : ∀ x ∈ X, x < w.heap.size) : PendsQ w lo bk n X [] [] [] := ⟨rfl, rfl, by simp, by simp, by simp, by simp, hX⟩
theorem PendsQ.get {q : Nat} (h : PendsQ w lo bk n X os bs Fs) (hq : q < bs.length) : ∃ o b F, os[q]? = some o ∧ bs[q]? = some b ∧ Fs[q]? = some F ∧ PendQ w lo bk n b o F ∧ OkQ n o := by
  have h1 : os[q]? = some (os[q]'(by rw [← h.len]; exact hq)) := List.getElem?_eq_getElem _
  have h2 : bs[q]? = some bs[q] := List.getElem?_eq_getElem hq
  have h3 : Fs[q]? = some (Fs[q]'(by rw [h.flen, ← h.len]; exact hq)) := List.getElem?_eq_getElem _
  exact ⟨_, _, _, h1, h2, h3, h.each q _ _ _ h1 h2 h3, h.ok _ (List.mem_of_getElem? h1)⟩
theorem PendsQ.at_ {q : Nat} {F : List Nat} (h : PendsQ w lo bk n X os bs Fs) (hF : Fs[q]? = some F) : ∃ o b, os[q]? = some o ∧ bs[q]? = some b ∧ PendQ w lo bk n b o F := by
  obtain ⟨o, b, F', h1, h2, h3, h4, _⟩ := h.get (q := q) (by rw [h.len, ← h.flen]; exact lt_of_get hF)
  rw [hF] at h3
  cases h3
  exact ⟨o, b, h1, h2, h4⟩
theorem PendsQ.part {S : List Nat} (h : PendsQ w lo bk n X os bs Fs) (hp : Part S w w') (hS : ∀ F ∈ Fs, ∀ q ∈ F, q ∉ S) : PendsQ w' lo bk n X os bs Fs :=
  ⟨h.len, h.flen, fun q o b F ho hb hF => (h.each q o b F ho hb hF).part hp (hS F (List.mem_of_getElem? hF)), h.apart, h.ok, h.off, fun x hx => Nat.lt_of_lt_of_le (h.ltX x hx) hp.size⟩
theorem PendsQ.onX {S : List Nat} (h : PendsQ w lo bk n X os bs Fs) (hp : Part S w w') (hS : ∀ q ∈ S, q ∈ X) : PendsQ w' lo bk n X os bs Fs :=
  h.part hp (fun F hF q hq hm => h.off F hF q hq (hS q hm))
theorem PendsQ.below (h : PendsQ w lo bk n X os bs Fs) (hb : Below w.heap.size w w') : PendsQ w' lo bk n X os bs Fs := h.onX (Part.of_below hb (Nat.le_refl _) []) (by simp)
theorem PendsQ.lt {F : List Nat} {q : Nat} (h : PendsQ w lo bk n X os bs Fs) (hF : F ∈ Fs) (hq : q ∈ F) : lo ≤ q ∧ q < w.heap.size := by
  obtain ⟨p, hp⟩ := List.getElem?_of_mem hF
  obtain ⟨o, b, _, _, h4⟩ := h.at_ hp
  exact h4.lows q hq
/-- other blocks that are none's -/
theorem PendsQ.withX {Y : List Nat} (h : PendsQ w lo bk n X os bs Fs) (hY : ∀ y ∈ Y, y ∈ X ∨ (∀ F ∈ Fs, y ∉ F) ∧ y < w.heap.size) : PendsQ w lo bk n Y os bs Fs :=
  ⟨h.len, h.flen, h.each, h.apart, h.ok, fun F hF q hq hm => by
    rcases hY q hm with hx | ⟨hx, _⟩
    · exact h.off F hF q hq hx
    · exact hx F hF hq, fun y hy => by
    rcases hY y hy with hx | ⟨_, hx⟩
    · exact h.ltX y hx
    · exact hx⟩
theorem get_snoc {α : Type} {l : List α} {a x : α} {q : Nat} (h : (l ++ [a])[q]? = some x) : (q < l.length ∧ l[q]? = some x) ∨ (q = l.length ∧ x = a) := by
  by_cases hq : q < l.length
  · rw [List.getElem?_append_left hq] at h; exact .inl ⟨hq, h⟩
  · rw [List.getElem?_append_right (by omega)] at h
    have h0 : q - l.length = 0 := by have := lt_of_get h; simp at this; omega
    rw [h0] at h
    simp at h
    exact .inr ⟨by omega, h.symm⟩
theorem PendsQ.snoc {o : OpQ} {b : Nat} (h : PendsQ w lo bk n X os bs Fs) (hb : Below w.heap.size w w') (hq : PendQ w' lo bk n b o [b]) (hn : w.heap.size ≤ b) (ho : OkQ n o) : PendsQ w' lo bk n X (os ++ [o]) (bs ++ [b]) (Fs ++ [[b]]) := by
  have h' := h.below hb
  refine ⟨by simp [h.len], by simp [h.flen], fun q o' b' F' h1 h2 h3 => ?_, fun p q F G hpq hF hG x hx => ?_, fun o' ho' => ?_, fun F hF q hm => ?_, h'.ltX⟩
  · rcases get_snoc h1 with ⟨hq1, h1⟩ | ⟨hq1, rfl⟩
    · rcases get_snoc h2 with ⟨_, h2⟩ | ⟨e, _⟩
      · rcases get_snoc h3 with ⟨_, h3⟩ | ⟨e, _⟩
        · exact h'.each q o' b' F' h1 h2 h3
        · have := h.flen; omega
      · have := h.len; omega
    · rcases get_snoc h2 with ⟨e, _⟩ | ⟨_, rfl⟩
      · have := h.len; omega
      · rcases get_snoc h3 with ⟨e, _⟩ | ⟨_, rfl⟩
        · have := h.flen; omega
        · exact hq
  · rcases get_snoc hF with ⟨_, hF⟩ | ⟨hp, rfl⟩
    · rcases get_snoc hG with ⟨_, hG⟩ | ⟨_, rfl⟩
      · exact h.apart p q F G hpq hF hG x hx
      · have := (h.lt (List.mem_of_getElem? hF) hx).2
        simp
        omega
    · rcases get_snoc hG with ⟨_, hG2⟩ | ⟨e, _⟩
      · intro hm
        simp at hx
        subst hx
        have := (h.lt (List.mem_of_getElem? hG2) hm).2
        omega
      · omega
  · rcases List.mem_append.1 ho' with ho' | ho'
    · exact h.ok o' ho'
    · simp at ho'; subst ho'; exact ho
  · rcases List.mem_append.1 hF with hF | hF
    · exact h.off F hF q hm
    · simp at hF
      subst hF
      simp at hm
      subst hm
      intro hx
      have := h.ltX q hx
      omega
/-- one of them is stepped -/
theorem PendsQ.step {q b bw : Nat} {o' : OpQ} {F F' : List Nat} (h : PendsQ w lo bk n X os bs Fs) (hb : bs[q]? = some b) (hF : Fs[q]? = some F) (hP : Part (bw :: F) w w') (hbw : bw ∈ X) (hq : PendQ w' lo bk n b o' F') (hF' : ∀ x ∈ F', x ∈ F ∨ w.heap.size ≤ x) (ho' : OkQ n o') : PendsQ w' lo bk n X (os.set q o') bs (Fs.set q F') := by
  have hql : q < os.length := by rw [← h.len]; exact lt_of_get hb
  have hother : ∀ p G, p ≠ q → Fs[p]? = some G → ∀ x ∈ G, x ∉ bw :: F := fun p G hpq hG x hx hm => by
    rcases List.mem_cons.1 hm with rfl | hm
    · exact h.off G (List.mem_of_getElem? hG) x hx hbw
    · exact h.apart p q G F hpq hG hF x hx hm
  refine ⟨by simp [h.len], by simp [h.flen], fun p o1 b1 F1 h1 h2 h3 => ?_, fun p r G1 G2 hpr hG1 hG2 x hx => ?_, fun o1 ho1 => ?_, fun G hG x hx => ?_, fun x hx => Nat.lt_of_lt_of_le (h.ltX x hx) hP.size⟩
  · by_cases e : p = q
    · subst e
      rw [List.getElem?_set_self hql] at h1
      rw [List.getElem?_set_self (by rw [h.flen]; exact hql)] at h3
      rw [hb] at h2
      cases h1
      cases h2
      cases h3
      exact hq
    · rw [List.getElem?_set_ne (fun e' => e e'.symm)] at h1 h3
      exact (h.each p o1 b1 F1 h1 h2 h3).part hP (hother p F1 e h3)
  · have new : ∀ p G, p ≠ q → Fs[p]? = some G → ∀ y ∈ G, y ∉ F' := fun p G hpq hG y hy hm => by
      rcases hF' y hm with hm | hm
      · exact h.apart p q G F hpq hG hF y hy hm
      · have := (h.lt (List.mem_of_getElem? hG) hy).2
        omega
    by_cases e : p = q
    · subst e
      rw [List.getElem?_set_self (by rw [h.flen]; exact hql)] at hG1
      rw [List.getElem?_set_ne hpr] at hG2
      cases hG1
      exact fun hm => new r G2 (fun e => hpr e.symm) hG2 x hm hx
    · rw [List.getElem?_set_ne (fun e' => e e'.symm)] at hG1
      by_cases e2 : r = q
      · subst e2
        rw [List.getElem?_set_self (by rw [h.flen]; exact hql)] at hG2
        cases hG2
        exact new p G1 e hG1 x hx
      · rw [List.getElem?_set_ne (fun e' => e2 e'.symm)] at hG2
        exact h.apart p r G1 G2 hpr hG1 hG2 x hx
  · rcases List.mem_or_eq_of_mem_set ho1 with ho1 | rfl
    · exact h.ok o1 ho1
    · exact ho'
  · rcases List.mem_or_eq_of_mem_set hG with hG | rfl
    · exact h.off G hG x hx
    · rcases hF' x hx with hm | hm
      · exact h.off F (List.mem_of_getElem? hF) x hm
      · intro hX
        have := h.ltX x hX
        omega
end

/-- an operation ahead of its first action -/
def newQ (op : Int × Int × Int × Int) : OpQ := ⟨op.1, op.2.1, op.2.2.1, op.2.2.2, 0, 0, 0, [], [], false, []⟩
def pickQ (n : Nat) (ops : List (Int × Int × Int × Int)) : List OpQ := ops.filterMap fun op => if rightS n op.1 op.2.1 op.2.2.1 op.2.2.2 then some (newQ op) else none
theorem pickQ_take (n : Nat) (ops : List (Int × Int × Int × Int)) {j : Nat} {op : Int × Int × Int × Int} (h : ops[j]? = some op) :
    pickQ n (ops.take (j + 1)) = pickQ n (ops.take j) ++ (if rightS n op.1 op.2.1 op.2.2.1 op.2.2.2 then [newQ op] else []) := by
  rw [List.take_add_one, h]
  unfold pickQ
  rw [List.filterMap_append]
  congr 1
  cases hb : rightS n op.1 op.2.1 op.2.2.1 op.2.2.2 <;> simp [hb]
theorem pickQ_length (n : Nat) (ops : List (Int × Int × Int × Int)) : (pickQ n ops).length ≤ ops.length := List.length_filterMap_le _ _
theorem newQ_ok {n : Nat} {op : Int × Int × Int × Int} (h : rightS n op.1 op.2.1 op.2.2.1 op.2.2.2 = true) (hv : U32 op.2.2.1) : OkQ n (newQ op) := by
  simp only [rightS, Bool.or_eq_true, Bool.and_eq_true, beq_iff_eq, decide_eq_true_eq] at h
  unfold OkQ newQ
  rcases h with (⟨⟨⟨h1, h2⟩, h3⟩, h4⟩ | ⟨⟨⟨⟨h1, h2⟩, h3⟩, h4⟩, h5⟩) | ⟨⟨⟨⟨h1, h2⟩, h3⟩, h4⟩, h5⟩
  · exact .inl ⟨h1, ⟨op.2.1.toNat, by simp; omega, by omega⟩, hv, h4, U64.zero, rfl⟩
  · exact .inr (.inl ⟨h1, ⟨op.2.1.toNat, by simp; omega, by omega⟩, h4, h5, by simp, rfl⟩)
  · exact .inr (.inr ⟨h1, h2, h3, h4, h5, by simp; omega, fun _ => by simp; omega, by simp⟩)
/-- the cells of what the operations are -/
def kindQ (os : List OpQ) : List Value := os.flatMap fun o => [.int .u8 o.k, .int .i64 o.r, .int .u32 o.v, .int .i64 o.t]
theorem kindQ_snoc (os : List OpQ) (o : OpQ) : kindQ os ++ [.int .u8 o.k, .int .i64 o.r, .int .u32 o.v, .int .i64 o.t] = kindQ (os ++ [o]) := by simp [kindQ]
end Go.Proofs.Ytdadgppbpomdoaa
