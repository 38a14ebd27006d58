/- OPERATIONS OF A GAUGE THAT ARE ALL UNDER WAY. -/
import Derived.Test.YtcocegneegjcpaaGi
import Derived.Test.YtcocegneegjcpaaEx
namespace Go.Proofs.Ytcocegneegjcpaa
open Go Go.RowKit

/-- all operations of a list are under way, each in a block of its own -/
structure PendsG (w : World) (lo bk : Nat) (os : List OpG) (bs : List Nat) : Prop where
  len : bs.length = os.length
  row : ∀ (q : Nat) (o : OpG) (b : Nat), os[q]? = some o → bs[q]? = some b → Row w b 115 (opG bk o)
  nodup : bs.Nodup
  lo : ∀ b, b ∈ bs → lo ≤ b
  ok : ∀ o, o ∈ os → OkG o
section
variable {w w' : World} {lo bk : Nat} {os : List OpG} {bs : List Nat}
theorem PendsG.nil (w : World) (lo bk : Nat) : PendsG w lo bk [] [] := ⟨rfl, by simp, by simp, by simp, by simp⟩
theorem PendsG.lt (h : PendsG w lo bk os bs) : ∀ b, b ∈ bs → b < w.heap.size := fun b hb => by
  obtain ⟨q, hq⟩ := List.getElem?_of_mem hb
  have hl := lt_of_get hq
  exact (h.row q _ b (List.getElem?_eq_getElem (by rw [← h.len]; exact hl)) hq).lt
theorem PendsG.part {S : List Nat} (h : PendsG w lo bk os bs) (hp : Part S w w') (hS : ∀ b, b ∈ bs → b ∉ S) : PendsG w' lo bk os bs :=
  ⟨h.len, fun q o b ho hb => (h.row q o b ho hb).part hp (hS b (List.mem_of_getElem? hb)), h.nodup, h.lo, h.ok⟩
theorem PendsG.grown {row : Option Nat} (h : PendsG w lo bk os bs) (hg : w.grownBy w' row) (hr : ∀ (b : Nat) (l : List Value), Row w b 115 l → some b ≠ row) : PendsG w' lo bk os bs :=
  ⟨h.len, fun q o b ho hb => (h.row q o b ho hb).grown hg (hr b _ (h.row q o b ho hb)), h.nodup, h.lo, h.ok⟩
theorem PendsG.snoc {o : OpG} {b : Nat} (h : PendsG w lo bk os bs) (hb : Below w.heap.size w w') (hr : Row w' b 115 (opG bk o)) (hn : w.heap.size ≤ b) (hlo : lo ≤ w.heap.size) (ho : OkG o) :
    PendsG w' lo bk (os ++ [o]) (bs ++ [b]) := by
  have hlt := h.lt
  have h' := h.part (Part.of_below hb (Nat.le_refl _) []) (by simp)
  refine ⟨by simp [h.len], fun q o' b' ho' hb' => ?_, ?_, fun x hx => ?_, fun x hx => ?_⟩
  · by_cases hq : q < os.length
    · rw [List.getElem?_append_left hq] at ho'
      rw [List.getElem?_append_left (by rw [h.len]; exact hq)] at hb'
      exact h'.row q o' b' ho' hb'
    · rw [List.getElem?_append_right (by omega)] at ho'
      rw [List.getElem?_append_right (by rw [h.len]; omega)] at hb'
      have hq0 : q - os.length = 0 := by have := lt_of_get ho'; simp at this; omega
      have hq1 : q - bs.length = 0 := by rw [h.len]; exact hq0
      rw [hq0] at ho'
      rw [hq1] at hb'
      simp at ho' hb'
      subst ho'
      subst hb'
      exact hr
  · rw [List.nodup_append]
    refine ⟨h.nodup, by simp, fun x hx y hy => ?_⟩
    simp at hy
    subst hy
    have := hlt x hx
    omega
  · rw [List.mem_append] at hx
    rcases hx with hx | hx
    · exact h.lo x hx
    · simp at hx; subst hx; omega
  · rw [List.mem_append] at hx
    rcases hx with hx | hx
    · exact h.ok x hx
    · simp at hx; subst hx; exact ho
theorem PendsG.step {q b bw : Nat} {o' : OpG} (h : PendsG w lo bk os bs) (hb : bs[q]? = some b) (hR : Row w' b 115 (opG bk o')) (hP : Part [bw, b] w w') (hbw : ∀ x, x ∈ bs → x ≠ bw) (ho' : OkG o') : PendsG w' lo bk (os.set q o') bs := by
  refine ⟨by rw [List.length_set]; exact h.len, fun p x c hx hc => ?_, h.nodup, h.lo, fun x hx => ?_⟩
  · by_cases e : p = q
    · subst e
      rw [hb] at hc
      cases hc
      have hl : p < os.length := by rw [← h.len]; exact lt_of_get hb
      rw [List.getElem?_set_self hl] at hx
      cases hx
      exact hR
    · rw [List.getElem?_set_ne (fun e' => e e'.symm)] at hx
      have hne : c ≠ b := fun e' => by
        subst e'
        exact e ((List.getElem?_inj (lt_of_get hc) h.nodup).1 (hc.trans hb.symm))
      exact (h.row p x c hx hc).part hP (by simp; exact ⟨hbw c (List.mem_of_getElem? hc), hne⟩)
  · rcases List.mem_or_eq_of_mem_set hx with hx | rfl
    · exact h.ok x hx
    · exact ho'
end
/-- a gauge of the call's own -/
structure OneG (W : World) (bg bk bw T : Nat) (wr : World) : Prop where
  gau : Gau wr bg bk bw T
  lo : W.heap.size ≤ bw
  low : Below W.heap.size W wr
section
variable {W wr w1 : World} {bg bk bw T T' : Nat}
theorem OneG.next (h : OneG W bg bk bw T wr) (hB : Gau w1 bg bk bw T') (hP : Part [bw] wr w1) : OneG W bg bk bw T' w1 :=
  ⟨hB, h.lo, h.low.trans (hP.below h.low.size (by simpa using h.lo))⟩
theorem OneG.on (h : OneG W bg bk bw T wr) (hb : Below wr.heap.size wr w1) : OneG W bg bk bw T w1 := ⟨h.gau.on hb, h.lo, h.low.trans (hb.mono h.low.size)⟩
theorem OneG.alloc (h : OneG W bg bk bw T wr) (o : Obj) : OneG W bg bk bw T (wr.alloc o) := ⟨h.gau.alloc o, h.lo, h.low.alloc h.low.size o⟩
theorem OneG.drew (h : OneG W bg bk bw T wr) : OneG W bg bk bw T wr.drew := ⟨⟨h.gau.head, ⟨h.gau.words.head, h.gau.words.row, h.gau.words.few, h.gau.words.ok⟩, h.gau.ok⟩, h.lo, h.low.drew⟩
theorem OneG.start {w0 : World} (hb0 : Below W.heap.size W w0) (hB : Gau w1 bg bk bw T) (hlo : w0.heap.size ≤ bw) (hb1 : Below w0.heap.size w0 w1) : OneG W bg bk bw T w1 :=
  ⟨hB, Nat.le_trans hb0.size hlo, hb0.trans (hb1.mono hb0.size)⟩
end
/-- a gauge of the call's own, and operations on it; the slice vp has their addresses -/
structure ManyG (W : World) (bg bk bw T : Nat) (os : List OpG) (bs : List Nat) (vp : Value) (wr : World) : Prop where
  one : OneG W bg bk bw T wr
  ps : wr.ownsRow W.heap.size 36 1 vp bs.length (ptrs bs)
  pends : PendsG wr W.heap.size bk os bs
section
variable {W wr w1 w5 w6 : World} {bg bk bw T T' : Nat} {os : List OpG} {bs : List Nat} {vp vp' : Value}
theorem ManyG.nil (h : OneG W bg bk bw T wr) : ManyG W bg bk bw T [] [] (.slice none 0 0) wr := ⟨h, ⟨rfl, .inl ⟨rfl, rfl⟩⟩, PendsG.nil ..⟩
theorem ManyG.on (h : ManyG W bg bk bw T os bs vp wr) (hb : Below wr.heap.size wr w1) : ManyG W bg bk bw T os bs vp w1 :=
  ⟨h.one.on hb, own_part h.ps (Part.of_below hb (Nat.le_refl _) []) (by simp), h.pends.part (Part.of_below hb (Nat.le_refl _) []) (by simp)⟩
theorem ManyG.alloc (h : ManyG W bg bk bw T os bs vp wr) (o : Obj) : ManyG W bg bk bw T os bs vp (wr.alloc o) := h.on ((Below.refl _ _).alloc (Nat.le_refl _) o)
theorem ManyG.low (h : ManyG W bg bk bw T os bs vp wr) : Below W.heap.size W wr := h.one.low
/-- behind what turns the gauge's word alone -/
theorem ManyG.word (h : ManyG W bg bk bw T os bs vp wr) (hB : Gau w1 bg bk bw T') (hP : Part [bw] wr w1) : ManyG W bg bk bw T' os bs vp w1 := by
  have b := h.one.gau
  refine ⟨h.one.next hB hP, own_part h.ps hP (fun q hq => by simpa using own_off h.ps b.words.row (by decide) q hq), ?_⟩
  exact ⟨h.pends.len, fun q o x ho hx => (h.pends.row q o x ho hx).part hP (by simpa using (h.pends.row q o x ho hx).ne b.words.row (by decide)), h.pends.nodup, h.pends.lo, h.pends.ok⟩
/-- behind what turns a block of another type -/
theorem ManyG.off {g : Nat} {t : TypeId} {l : List Value} (h : ManyG W bg bk bw T os bs vp wr) (hg : Row wr g t l) (hlo : W.heap.size ≤ g) (hP : Part [g] wr w1)
    (n1 : 111 ≠ t) (n2 : 145 ≠ t) (n3 : 154 ≠ t) (n4 : 36 ≠ t) (n5 : 115 ≠ t) : ManyG W bg bk bw T os bs vp w1 := by
  have b := h.one.gau
  refine ⟨⟨b.part hP (by simpa using b.head.ne hg n1) (by simpa using b.words.head.ne hg n2) (by simpa using b.words.row.ne hg n3), h.one.lo, h.low.trans (hP.below h.low.size (by simpa using hlo))⟩, own_part h.ps hP (fun q hq => by simpa using own_off h.ps hg n4 q hq), ?_⟩
  exact ⟨h.pends.len, fun q o x ho hx => (h.pends.row q o x ho hx).part hP (by simpa using (h.pends.row q o x ho hx).ne hg n5), h.pends.nodup, h.pends.lo, h.pends.ok⟩
/-- behind a growing slice of another type -/
theorem ManyG.grown {base n size : Nat} {e : TypeId} {v : Value} {xs : List Value} (h : ManyG W bg bk bw T os bs vp wr) (hv : wr.ownsRow base e size v n xs) (hbase : W.heap.size ≤ base) (hg : wr.grownBy w1 v.ownBlock)
    (n1 : e ≠ 111) (n2 : e ≠ 145) (n3 : e ≠ 154) (n4 : 36 ≠ e) (n5 : e ≠ 115) : ManyG W bg bk bw T os bs vp w1 := by
  have b := h.one.gau
  refine ⟨⟨⟨b.head.grown hg (own_not_in hv b.head n1), ⟨b.words.head.grown hg (own_not_in hv b.words.head n2), b.words.row.grown hg (own_not_in hv b.words.row n3), b.words.few, b.words.ok⟩, b.ok⟩, h.one.lo, h.low.grown hg h.low.size (fun q hq => Nat.le_trans hbase (own_from hv q hq))⟩, h.ps.kept hg (own_apart h.ps hv n4), ?_⟩
  exact h.pends.grown hg (fun x l hx => own_not_in hv hx n5)
/-- one operation more -/
theorem ManyG.grow {o : OpG} {bp : Nat} {ob : Obj} (h : ManyG W bg bk bw T os bs vp wr) (hb5 : Below wr.heap.size wr w5) (hr5 : Row w5 bp 115 (opG bk o)) (hn : wr.heap.size ≤ bp) (ho : OkG o)
    (h6 : w6.ownsRow W.heap.size 36 1 vp' (bs.length + 1) (ptrs bs ++ [.pointer (some ⟨bp, 0, none⟩)])) (hg6 : (w5.alloc ob).grownBy w6 vp.ownBlock) :
    ManyG W bg bk bw T (os ++ [o]) (bs ++ [bp]) vp' w6 := by
  have h5 := (h.on hb5).alloc ob
  have hp5 := h.pends.snoc hb5 hr5 hn h.low.size ho
  have hp5' : PendsG (w5.alloc ob) W.heap.size bk (os ++ [o]) (bs ++ [bp]) := hp5.part (Part.alloc (Part.refl [] _) ob) (by simp)
  have b := h5.one.gau
  refine ⟨⟨⟨b.head.grown hg6 (own_not_in h5.ps b.head (by decide)), ⟨b.words.head.grown hg6 (own_not_in h5.ps b.words.head (by decide)), b.words.row.grown hg6 (own_not_in h5.ps b.words.row (by decide)), b.words.few, b.words.ok⟩, b.ok⟩, h.one.lo, h5.low.grown hg6 h5.low.size (own_from h5.ps)⟩, ?_, hp5'.grown hg6 (fun x l hx => own_not_in h5.ps hx (by decide))⟩
  rw [List.length_append, List.length_singleton, ← ptrs_snoc]
  exact h6
/-- one of them is stepped -/
theorem ManyG.step {q b : Nat} {o' : OpG} (h : ManyG W bg bk bw T os bs vp wr) (hb : bs[q]? = some b) (hW : Words w1 bk bw [(T' : Int)]) (hT : B64 T') (hR : Row w1 b 115 (opG bk o')) (hP : Part [bw, b] wr w1) (ho' : OkG o') :
    ManyG W bg bk bw T' (os.set q o') bs vp w1 := by
  have hmem := List.mem_of_getElem? hb
  obtain ⟨x, hx⟩ : ∃ x, os[q]? = some x := ⟨_, List.getElem?_eq_getElem (by rw [← h.pends.len]; exact lt_of_get hb)⟩
  have hrow := h.pends.row q x b hx hb
  have hlo := h.pends.lo b hmem
  refine ⟨⟨h.one.gau.next hP hW (h.one.gau.pend_ne hrow) hT, h.one.lo, h.low.trans (hP.below h.low.size (by have := h.one.lo; simp; omega))⟩, own_part h.ps hP (fun r hr => by simp; exact ⟨own_off h.ps h.one.gau.words.row (by decide) r hr, own_off h.ps hrow (by decide) r hr⟩), h.pends.step hb hR hP (fun y hy => ?_) ho'⟩
  obtain ⟨r, hr⟩ := List.getElem?_of_mem hy
  exact (h.pends.row r _ y (List.getElem?_eq_getElem (by rw [← h.pends.len]; exact lt_of_get hr)) hr).ne h.one.gau.words.row (by decide)
theorem ManyG.get {q : Nat} (h : ManyG W bg bk bw T os bs vp wr) (hq : q < bs.length) : ∃ o b g c, os[q]? = some o ∧ bs[q]? = some b ∧ vp = .slice (some ⟨g, 0, none⟩) bs.length c ∧ wr.cell? ⟨g, q, none⟩ = some (.pointer (some ⟨b, 0, none⟩)) ∧ Row wr b 115 (opG bk o) ∧ OkG o := by
  obtain ⟨g, c, rfl, _, _⟩ := own_some h.ps (by omega)
  have h1 : os[q]? = some (os[q]'(by rw [← h.pends.len]; exact hq)) := List.getElem?_eq_getElem _
  have h2 : bs[q]? = some bs[q] := List.getElem?_eq_getElem hq
  exact ⟨_, _, g, c, h1, h2, rfl, own_cell h.ps (ptrs_get h2), h.pends.row q _ _ h1 h2, h.pends.ok _ (List.mem_of_getElem? h1)⟩
end
/-- a slice of floats that came in reads as these -/
def ExtF (w : World) (A : Option Addr) (xs : List Nat) : Prop := ∀ j x, xs[j]? = some x → ∃ b o, A = some ⟨b, o, none⟩ ∧ b < w.heap.size ∧ w.cell? ⟨b, o + j, none⟩ = some (.float .f64 x) ∧ B64 x
theorem ExtF.on {w w' : World} {A : Option Addr} {xs : List Nat} (h : ExtF w A xs) (hb : Below w.heap.size w w') : ExtF w' A xs := fun j x hx => by
  obtain ⟨b, o, e, hlt, hc, hx⟩ := h j x hx
  exact ⟨b, o, e, Nat.lt_of_lt_of_le hlt hb.size, (hb.cell (p := ⟨b, o + j, none⟩) hlt).trans hc, hx⟩
theorem infoPG : (Try.prog.info? 36).map (fun i => (i.zero, i.size, i.bytes)) = some (some (.pointer none), 1, 8) := by kernel_rfl
end Go.Proofs.Ytcocegneegjcpaa
