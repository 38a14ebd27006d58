/- WHAT 'SnapTrue' HAS IN MEMORY: the moments so far, first and ahead of each operation, the floor; rises. -/
import Derived.Test.YtdadgppbpomdoaaYa
import Derived.Test.YtdadgppbpomdoaaPw
import Derived.Laws.MakeOwn
namespace Go.Proofs.Ytdadgppbpomdoaa
open Go Go.RowKit

def natsI (l : List Nat) : List Value := l.map fun (f : Nat) => .int .i64 (f : Int)
theorem natsI_get {l : List Nat} {i f : Nat} (h : l[i]? = some f) : (natsI l)[i]? = some (.int .i64 (f : Int)) := by simp [natsI, h]
theorem natsI_set (l : List Nat) (i f : Nat) : (natsI l).set i (.int .i64 (f : Int)) = natsI (l.set i f) := by simp [natsI, List.map_set]
theorem madeCells_one (v : Value) (k : Nat) (hv : v.cells = #[v]) : (madeCells v.cells (k * 1)).toList = List.replicate k v := by
  rw [Nat.mul_one, hv]
  apply List.ext_getElem
  · simp [madeCells]
  · intro i h1 h2
    simp [madeCells, Nat.mod_one]
/-- the numbers rise -/
def riseB (a b : List Int) : Bool := (a.zip b).all fun p => decide (numW p.1 ≤ numW p.2)

/-- a list of registers that was answered: its block is among X -/
structure KeptL (W : World) (X : List Nat) (n : Nat) (wr : World) (v : Value) (xs : List Int) : Prop where
  form : ∃ b c, v = .slice (some ⟨b, 0, none⟩) n c ∧ b ∈ X
  row : wr.ownsRow W.heap.size 60 2 v n (regCells xs)
def KeptO (W : World) (X : List Nat) (n : Nat) (wr : World) (v : Value) (xs : List Int) : Prop := (xs = [] ∧ v = .slice none 0 0) ∨ KeptL W X n wr v xs
section
variable {W wr w1 : World} {X Y : List Nat} {n : Nat} {v : Value} {xs : List Int}
theorem KeptL.mem (h : KeptL W X n wr v xs) : ∀ q, v.ownBlock = some q → q ∈ X := by
  obtain ⟨b, c, rfl, hb⟩ := h.form
  intro q e
  cases e
  exact hb
theorem KeptL.len (h : KeptL W X n wr v xs) : xs.length = n := by have := h.row.1; simp at this; omega
theorem KeptL.wide (h : KeptL W X n wr v xs) (hY : ∀ x ∈ X, x ∈ Y) : KeptL W Y n wr v xs := by
  obtain ⟨b, c, e, hb⟩ := h.form
  exact ⟨⟨b, c, e, hY b hb⟩, h.row⟩
theorem KeptL.on (h : KeptL W X n wr v xs) (hb : Below wr.heap.size wr w1) : KeptL W X n w1 v xs := ⟨h.form, own_part h.row (Part.of_below hb (Nat.le_refl _) []) (by simp)⟩
theorem KeptL.off {g : Nat} {t : TypeId} {l : List Value} (h : KeptL W X n wr v xs) (hr : Row wr g t l) (hne : 60 ≠ t) (hP : Part [g] wr w1) : KeptL W X n w1 v xs :=
  ⟨h.form, own_part h.row hP (fun q hq => by simpa using own_off h.row hr hne q hq)⟩
theorem KeptL.step {bw : Nat} {F : List Nat} {t : TypeId} {l : List Value} (h : KeptL W X n wr v xs) (hr : Row wr bw t l) (hne : 60 ≠ t) (hF : ∀ x ∈ X, x ∉ F) (hP : Part (bw :: F) wr w1) : KeptL W X n w1 v xs :=
  ⟨h.form, own_part h.row hP (fun q hq hm => by
    rcases List.mem_cons.1 hm with e | hm
    · exact own_off h.row hr hne q hq e
    · exact hF q (h.mem q hq) hm)⟩
theorem KeptL.grown {m size : Nat} {e : TypeId} {u : Value} {us : List Value} (h : KeptL W X n wr v xs) (hu : wr.ownsRow W.heap.size e size u m us) (hne : 60 ≠ e) (hg : wr.grownBy w1 u.ownBlock) : KeptL W X n w1 v xs := ⟨h.form, h.row.kept hg (own_apart h.row hu hne)⟩
theorem KeptO.map {wr' : World} {Y : List Nat} (h : KeptO W X n wr v xs) (f : KeptL W X n wr v xs → KeptL W Y n wr' v xs) : KeptO W Y n wr' v xs := h.imp id f
theorem KeptO.form (h : KeptO W X n wr v xs) : ∃ A m c, v = .slice A m c := by
  rcases h with ⟨_, e⟩ | h
  · exact ⟨_, _, _, e⟩
  · obtain ⟨b, c, e, _⟩ := h.form
    exact ⟨_, _, _, e⟩
theorem KeptO.len (h : KeptO W X n wr v xs) : xs = [] ∨ xs.length = n := h.imp (fun e => e.1) KeptL.len
end
/-- a whole row, as one that is owned -/
theorem own_of_reg {w : World} {base b n : Nat} {xs : List Int} (h : Row w b 60 (regCells xs)) (hb : base ≤ b) (hn : xs.length = n) (hl : n ≤ maxLen) : w.ownsRow base 60 2 (.slice (some ⟨b, 0, none⟩) n n) n (regCells xs) := by
  subst hn
  refine ⟨by simp, .inr ⟨b, xs.length, (regCells xs).toArray, rfl, hb, h, Nat.le_refl _, hl, by simp, ?_⟩⟩
  rw [List.take_of_length_le (by simp)]

structure TrueSt (W : World) (n br bk bw : Nat) (ws : List Int) (os : List OpQ) (bs : List Nat) (Fs : List (List Nat)) (vp vk : Value) (hist : List (List Int)) (vm : Value) (ms : List Value) (gf : Nat) (first : List Nat) (ga : Nat) (avs : List Value) (ah : List (List Int)) (vf : Value) (fl : List Int) (X : List Nat) (wr : World) : Prop where
  many : ManyQ W n br bk bw ws os bs Fs vp vk (gf :: ga :: (vm.ownBlock.toList ++ X)) wr
  mrow : wr.ownsRow W.heap.size 41 1 vm hist.length ms
  kept : ∀ (m : Nat) (v : Value) (h : List Int), ms[m]? = some v → hist[m]? = some h → KeptL W X n wr v h
  frow : Row wr gf 3 (natsI first)
  arow : Row wr ga 41 avs
  akept : ∀ (q : Nat) (v : Value) (a : List Int), avs[q]? = some v → ah[q]? = some a → KeptO W X n wr v a
  fkept : KeptO W X n wr vf fl
  alen : avs.length = ah.length
  apart : vm.ownBlock ≠ some ga
  lof : W.heap.size ≤ gf
  loa : W.heap.size ≤ ga
section
variable {W wr w1 : World} {n br bk bw gf ga : Nat} {ws : List Int} {os : List OpQ} {bs : List Nat} {Fs : List (List Nat)} {vp vk vm vf : Value} {hist : List (List Int)} {ms avs : List Value} {first : List Nat} {ah : List (List Int)} {fl : List Int} {X : List Nat}
theorem ManyQ.addX {b : Nat} {X Y : List Nat} (h : ManyQ W n br bk bw ws os bs Fs vp vk X wr) (hb : Below wr.heap.size wr w1) (hlo : wr.heap.size ≤ b) (hlt : b < w1.heap.size) (hY : ∀ y ∈ Y, y ∈ X ∨ y = b) : ManyQ W n br bk bw ws os bs Fs vp vk Y w1 := by
  have h1 := h.on hb
  refine ⟨h1.st, h1.ps, h1.ks, h1.pends.withX (fun y hy => ?_)⟩
  simp at hy ⊢
  rcases hy with e | e | e | e | e | e
  · exact .inl (.inl e)
  · exact .inl (.inr (.inl e))
  · exact .inl (.inr (.inr (.inl e)))
  · exact .inl (.inr (.inr (.inr (.inl e))))
  · exact .inl (.inr (.inr (.inr (.inr (.inl e)))))
  · rcases hY y e with e | e
    · exact .inl (.inr (.inr (.inr (.inr (.inr e)))))
    · subst e
      exact .inr ⟨fun F hF hm => by have := (h.pends.lt hF hm).2; omega, hlt⟩
theorem TrueSt.on (h : TrueSt W n br bk bw ws os bs Fs vp vk hist vm ms gf first ga avs ah vf fl X wr) (hb : Below wr.heap.size wr w1) : TrueSt W n br bk bw ws os bs Fs vp vk hist vm ms gf first ga avs ah vf fl X w1 :=
  ⟨h.many.on hb, own_part h.mrow (Part.of_below hb (Nat.le_refl _) []) (by simp), fun m v x h1 h2 => (h.kept m v x h1 h2).on hb, h.frow.below hb h.frow.lt, h.arow.below hb h.arow.lt, fun q v a h1 h2 => (h.akept q v a h1 h2).map fun k => k.on hb, h.fkept.map fun k => k.on hb, h.alen, h.apart, h.lof, h.loa⟩
theorem TrueSt.alloc (h : TrueSt W n br bk bw ws os bs Fs vp vk hist vm ms gf first ga avs ah vf fl X wr) (o : Obj) : TrueSt W n br bk bw ws os bs Fs vp vk hist vm ms gf first ga avs ah vf fl X (wr.alloc o) := h.on ((Below.refl _ _).alloc (Nat.le_refl _) o)
theorem TrueSt.drewN (h : TrueSt W n br bk bw ws os bs Fs vp vk hist vm ms gf first ga avs ah vf fl X wr) (m : Nat) : TrueSt W n br bk bw ws os bs Fs vp vk hist vm ms gf first ga avs ah vf fl X (wr.drewN m) := h.on (Below.draws (Below.refl _ _) m)
theorem TrueSt.drew (h : TrueSt W n br bk bw ws os bs Fs vp vk hist vm ms gf first ga avs ah vf fl X wr) : TrueSt W n br bk bw ws os bs Fs vp vk hist vm ms gf first ga avs ah vf fl X wr.drew := h.drewN 1
/-- a step of one of them -/
theorem true_step {q b : Nat} {o : OpQ} {F : List Nat} {d0 d1 d2 d3 : Int} {d4 l : Bool} (h : TrueSt W n br bk bw ws os bs Fs vp vk hist vm ms gf first ga avs ah vf fl X wr) (h64 : n ≤ 64) (ho : os[q]? = some o) (hb : bs[q]? = some b) (hF : Fs[q]? = some F) (hq : PendQ wr W.heap.size bk n b o F) (hok : OkQ n o)
    (hd : didQ ws o = (d0, d1, d2, d3, d4)) (hl : decide ((stepQ ws o).ph = 2) = l) :
    Calls Try.prog 14 #[.pointer (some ⟨b, 0, none⟩)] wr fun e w' => e = .returned (.tuple #[.agg #[.int .u8 d0, .int .i64 d1, .int .u64 d2, .int .u64 d3, .bool d4], .bool l]) ∧
      ∃ Fs', TrueSt W n br bk bw (stepQW ws o) (os.set q (stepQ ws o)) bs Fs' vp vk hist vm ms gf first ga avs ah vf fl X w' := by
  refine (qstep_op h.many.st.regs.words h.many.st.len h64 hq h.many.st.low.size hok).mono ?_
  rintro e w' ⟨rfl, hW, ⟨F', hq', hF'⟩, hP⟩
  have hFm := List.mem_of_getElem? hF
  refine ⟨by rw [hd, hl]; rfl, Fs.set q F', ?_⟩
  have hX : ∀ x, x ∈ gf :: ga :: (vm.ownBlock.toList ++ X) → x ∉ F := fun x hx hm => h.many.pends.off F hFm x hm (by
    simp only [List.mem_cons, List.mem_append] at hx ⊢
    exact .inr (.inr (.inr (.inr hx))))
  have hX' : ∀ x, x ∈ gf :: ga :: (vm.ownBlock.toList ++ X) → x ≠ bw → x ∉ bw :: F := fun x hx hne hm => by
    rcases List.mem_cons.1 hm with e | hm
    · exact hne e
    · exact hX x hx hm
  have hXX : ∀ x ∈ X, x ∉ F := fun x hx => hX x (by simp [hx])
  have hrow := h.many.st.regs.words.row
  exact ⟨h.many.step ho hb hF hW hq' hF' hP, own_part h.mrow hP (fun x hx => hX' x (by simp [hx]) (own_off h.mrow hrow (by decide) x hx)), fun m v x h1 h2 => (h.kept m v x h1 h2).step hrow (by decide) hXX hP, h.frow.part hP (hX' gf (by simp) (h.frow.ne hrow (by decide))), h.arow.part hP (hX' ga (by simp) (h.arow.ne hrow (by decide))), fun q v a h1 h2 => (h.akept q v a h1 h2).map fun k => k.step hrow (by decide) hXX hP, h.fkept.map fun k => k.step hrow (by decide) hXX hP, h.alen, h.apart, h.lof, h.loa⟩
/-- behind a list that was answered -/
theorem TrueSt.more {b : Nat} (h : TrueSt W n br bk bw ws os bs Fs vp vk hist vm ms gf first ga avs ah vf fl X wr) (hb : Below wr.heap.size wr w1) (hlo : wr.heap.size ≤ b) (hlt : b < w1.heap.size) : TrueSt W n br bk bw ws os bs Fs vp vk hist vm ms gf first ga avs ah vf fl (b :: X) w1 := by
  have h1 := h.on hb
  have hw : ∀ x ∈ X, x ∈ b :: X := fun x hx => by simp [hx]
  refine ⟨h.many.addX hb hlo hlt (fun y hy => ?_), h1.mrow, fun m v x h2 h3 => (h1.kept m v x h2 h3).wide hw, h1.frow, h1.arow, fun q v a h2 h3 => (h1.akept q v a h2 h3).map fun k => k.wide hw, h1.fkept.map fun k => k.wide hw, h.alen, h.apart, h.lof, h.loa⟩
  simp at hy ⊢
  rcases hy with e | e | e | e | e
  · exact .inl (.inl e)
  · exact .inl (.inr (.inl e))
  · exact .inl (.inr (.inr (.inl e)))
  · exact .inr e
  · exact .inl (.inr (.inr (.inr e)))
/-- one more moment -/
theorem TrueSt.app {g cap m : Nat} {v : Value} {ob : Obj} (h : TrueSt W n br bk bw ws os bs Fs vp vk hist vm ms gf first ga avs ah vf fl X wr) (hv : KeptL W X n wr v ws) (hm : hist.length = m) (hown : w1.ownsRow W.heap.size 41 1 (.slice (some ⟨g, 0, none⟩) (m + 1) cap) (m + 1) (ms ++ [v])) (hg : (wr.alloc ob).grownBy w1 vm.ownBlock) (hat : vm.ownBlock = some g ∨ g = (wr.alloc ob).heap.size) :
    TrueSt W n br bk bw ws os bs Fs vp vk (hist ++ [ws]) (.slice (some ⟨g, 0, none⟩) (m + 1) cap) (ms ++ [v]) gf first ga avs ah vf fl X w1 := by
  subst hm
  have h5 := h.alloc ob
  have hv5 := hv.on ((Below.refl _ _).alloc (Nat.le_refl _) ob)
  have hmsl : ms.length = hist.length := by have := h.mrow.1; omega
  have hmany : ManyQ W n br bk bw ws os bs Fs vp vk (gf :: ga :: ((Value.slice (some ⟨g, 0, none⟩) (hist.length + 1) cap).ownBlock.toList ++ X)) w1 :=
    h5.many.regrow h5.mrow (fun q e => by simp [e]) hg hat (own_block hown g rfl) (fun y hy => by
      simp [Value.ownBlock] at hy ⊢
      rcases hy with e | e | e | e
      · exact .inl (.inl e)
      · exact .inl (.inr (.inl e))
      · exact .inr e
      · exact .inl (.inr (.inr (.inr e)))) (by decide) (by decide) (by decide) (by decide) (by decide)
  refine ⟨hmany, ?_, fun k u x h1 h2 => ?_, h5.frow.grown hg (own_not_in h5.mrow h5.frow (by decide)), h5.arow.grown hg (fun e => h.apart e.symm), fun q u a h1 h2 => (h5.akept q u a h1 h2).map fun k => k.grown h5.mrow (by decide) hg, h5.fkept.map fun k => k.grown h5.mrow (by decide) hg, h.alen, ?_, h.lof, h.loa⟩
  · rw [List.length_append, List.length_singleton]
    exact hown
  · rcases get_snoc h1 with ⟨hk, h1⟩ | ⟨hk, rfl⟩
    · rcases get_snoc h2 with ⟨_, h2⟩ | ⟨e, _⟩
      · exact (h5.kept k u x h1 h2).grown h5.mrow (by decide) hg
      · omega
    · rcases get_snoc h2 with ⟨e, _⟩ | ⟨_, rfl⟩
      · omega
      · exact hv5.grown h5.mrow (by decide) hg
  · intro e
    simp [Value.ownBlock] at e
    rcases hat with e1 | e1
    · exact h.apart (by rw [e1, e])
    · have := h5.arow.lt
      omega
theorem TrueSt.setFirst {q f : Nat} (h : TrueSt W n br bk bw ws os bs Fs vp vk hist vm ms gf first ga avs ah vf fl X wr) : TrueSt W n br bk bw ws os bs Fs vp vk hist vm ms gf (first.set q f) ga avs ah vf fl X (wr.setCell ⟨gf, q, none⟩ (.int .i64 (f : Int))) := by
  have hP : Part [gf] wr (wr.setCell ⟨gf, q, none⟩ (.int .i64 (f : Int))) := (Part.refl [gf] _).set (p := ⟨gf, q, none⟩) (by simp) _
  exact ⟨h.many.far h.frow (by simp) h.lof hP (by decide) (by decide) (by decide) (by decide) (by decide), own_part h.mrow hP (fun x hx => by simpa using own_off h.mrow h.frow (by decide) x hx), fun m v x h1 h2 => (h.kept m v x h1 h2).off h.frow (by decide) hP, by rw [← natsI_set]; exact h.frow.set _ _, h.arow.part hP (by simpa using h.arow.ne h.frow (by decide)), fun q v a h1 h2 => (h.akept q v a h1 h2).map fun k => k.off h.frow (by decide) hP, h.fkept.map fun k => k.off h.frow (by decide) hP, h.alen, h.apart, h.lof, h.loa⟩
theorem TrueSt.setAhead {q : Nat} (h : TrueSt W n br bk bw ws os bs Fs vp vk hist vm ms gf first ga avs ah vf fl X wr) : TrueSt W n br bk bw ws os bs Fs vp vk hist vm ms gf first ga (avs.set q vf) (ah.set q fl) vf fl X (wr.setCell ⟨ga, q, none⟩ vf) := by
  have hP : Part [ga] wr (wr.setCell ⟨ga, q, none⟩ vf) := (Part.refl [ga] _).set (p := ⟨ga, q, none⟩) (by simp) _
  have hf : KeptO W X n (wr.setCell ⟨ga, q, none⟩ vf) vf fl := h.fkept.map fun k => k.off h.arow (by decide) hP
  refine ⟨h.many.far h.arow (by simp) h.loa hP (by decide) (by decide) (by decide) (by decide) (by decide), own_part h.mrow hP (fun x hx => by simpa using fun e => h.apart (by rw [hx, e])), fun m v x h1 h2 => (h.kept m v x h1 h2).off h.arow (by decide) hP, h.frow.part hP (by simpa using h.frow.ne h.arow (by decide)), h.arow.set _ _, fun p v a h1 h2 => ?_, hf, by simp [h.alen], h.apart, h.lof, h.loa⟩
  by_cases e : p = q
  · subst e
    rw [List.getElem?_set_self (by have := lt_of_get h1; simpa using this)] at h1
    rw [List.getElem?_set_self (by have := lt_of_get h2; simpa using this)] at h2
    cases h1
    cases h2
    exact hf
  · rw [List.getElem?_set_ne (fun e' => e e'.symm)] at h1 h2
    exact (h.akept p v a h1 h2).map fun k => k.off h.arow (by decide) hP
theorem TrueSt.setFloor {v : Value} {xs : List Int} (h : TrueSt W n br bk bw ws os bs Fs vp vk hist vm ms gf first ga avs ah vf fl X wr) (hv : KeptL W X n wr v xs) : TrueSt W n br bk bw ws os bs Fs vp vk hist vm ms gf first ga avs ah v xs X wr :=
  ⟨h.many, h.mrow, h.kept, h.frow, h.arow, h.akept, .inr hv, h.alen, h.apart, h.lof, h.loa⟩
/-- the answer of one that has ended -/
theorem true_answer {q b : Nat} {o : OpQ} {cl : Bool} {c : Int} (h : TrueSt W n br bk bw ws os bs Fs vp vk hist vm ms gf first ga avs ah vf fl X wr) (ho : os[q]? = some o) (hb : bs[q]? = some b) (hk : o.k = 3) (hph : o.ph = 2) (hxs : o.xs.length = n) (hcl : o.cl = cl) (hc : (o.c : Int) = c) :
    Calls Try.prog 18 #[.pointer (some ⟨b, 0, none⟩)] wr fun e w' => ∃ b' cb, e = .returned (.agg #[.slice (some ⟨b', 0, none⟩) n cb, .bool cl, .int .i64 c]) ∧ KeptL W (b' :: X) n w' (.slice (some ⟨b', 0, none⟩) n cb) o.xs ∧ TrueSt W n br bk bw ws os bs Fs vp vk hist vm ms gf first ga avs ah vf fl (b' :: X) w' := by
  obtain ⟨o', b0, F, gp, cp, gk, ck, h1, h2, h3, h4, h5, _⟩ := h.many.get (lt_of_get hb)
  rw [ho] at h1
  cases h1
  rw [hb] at h2
  cases h2
  refine (qanswer_op h4 hph (m := n) hxs hcl (q := c) (by rw [if_pos hk]; exact hc)).mono ?_
  rintro e w' ⟨b', cb, rfl, h6, h7, h8⟩
  exact ⟨b', cb, rfl, ⟨⟨b', cb, rfl, by simp⟩, ownsRow_base h7 h.many.st.low.size⟩, h.more h8 h6 (own_block h7 _ rfl)⟩
/-- All, which is one more list -/
theorem true_all (h : TrueSt W n br bk bw ws os bs Fs vp vk hist vm ms gf first ga avs ah vf fl X wr) (h64 : n ≤ 64) :
    Calls Try.prog 20 #[.pointer (some ⟨br, 0, none⟩)] wr fun e w' => ∃ b, e = .returned (.slice (some ⟨b, 0, none⟩) n n) ∧ KeptL W (b :: X) n w' (.slice (some ⟨b, 0, none⟩) n n) ws ∧ TrueSt W n br bk bw ws os bs Fs vp vk hist vm ms gf first ga avs ah vf fl (b :: X) w' := by
  have hl := h.many.st.len
  refine (rall_any h.many.st.regs).mono ?_
  rintro e w' ⟨b, rfl, hb, hr, hbl⟩
  rw [hl]
  have hlow := h.many.st.low.size
  exact ⟨b, rfl, ⟨⟨b, n, rfl, by simp⟩, own_of_reg hr (by omega) hl (by unfold maxLen; omega)⟩, h.more hbl hb hr.lt⟩
/-- what one looks up -/
theorem TrueSt.ptr {q gp cp b : Nat} (h : TrueSt W n br bk bw ws os bs Fs (.slice (some ⟨gp, 0, none⟩) bs.length cp) vk hist vm ms gf first ga avs ah vf fl X wr) (hb : bs[q]? = some b) : wr.cell? ⟨gp, q, none⟩ = some (.pointer (some ⟨b, 0, none⟩)) ∧ gp < wr.heap.size := by
  have c := own_cell h.many.ps (ptrs_get hb)
  exact ⟨c, World.block_lt_of_cell? _ _ c⟩
theorem TrueSt.kind {q gk ck : Nat} {o : OpQ} (h : TrueSt W n br bk bw ws os bs Fs vp (.slice (some ⟨gk, 0, none⟩) bs.length ck) hist vm ms gf first ga avs ah vf fl X wr) (ho : os[q]? = some o) :
    wr.cell? ⟨gk, q * 4, none⟩ = some (.int .u8 o.k) ∧ wr.cell? ⟨gk, q * 4 + 3, none⟩ = some (.int .i64 o.t) ∧ gk < wr.heap.size := by
  obtain ⟨k0, _, _, k3⟩ := kindQ_get ho
  have c0 := own_cell h.many.ks k0
  exact ⟨c0, own_cell h.many.ks k3, World.block_lt_of_cell? _ _ c0⟩
theorem TrueSt.firsts {q f : Nat} (h : TrueSt W n br bk bw ws os bs Fs vp vk hist vm ms gf first ga avs ah vf fl X wr) (hf : first[q]? = some f) : wr.cell? ⟨gf, q, none⟩ = some (.int .i64 (f : Int)) ∧ gf < wr.heap.size ∧ (∀ i, wr.frozen? ⟨gf, i, none⟩ = false) :=
  ⟨(h.frow.cell _).trans (natsI_get hf), h.frow.lt, h.frow.free⟩
theorem TrueSt.aheads {q : Nat} {a : List Int} (h : TrueSt W n br bk bw ws os bs Fs vp vk hist vm ms gf first ga avs ah vf fl X wr) (ha : ah[q]? = some a) : ∃ v, avs[q]? = some v ∧ wr.cell? ⟨ga, q, none⟩ = some v ∧ KeptO W X n wr v a ∧ ga < wr.heap.size ∧ (∀ i, wr.frozen? ⟨ga, i, none⟩ = false) := by
  obtain ⟨v, hv⟩ : ∃ v, avs[q]? = some v := ⟨_, List.getElem?_eq_getElem (by rw [h.alen]; exact lt_of_get ha)⟩
  exact ⟨v, hv, (h.arow.cell _).trans hv, h.akept q v a hv ha, h.arow.lt, h.arow.free⟩
theorem TrueSt.moment {m gm cm l : Nat} {x : List Int} (h : TrueSt W n br bk bw ws os bs Fs vp vk hist (.slice (some ⟨gm, 0, none⟩) l cm) ms gf first ga avs ah vf fl X wr) (hl : hist.length = l) (hx : hist[m]? = some x) : ∃ b c, wr.cell? ⟨gm, m, none⟩ = some (.slice (some ⟨b, 0, none⟩) n c) ∧ LiesR wr (some ⟨b, 0, none⟩) x ∧ gm < wr.heap.size := by
  subst hl
  have hml : ms.length = hist.length := by have := h.mrow.1; omega
  obtain ⟨v, hv⟩ : ∃ v, ms[m]? = some v := ⟨_, List.getElem?_eq_getElem (by rw [hml]; exact lt_of_get hx)⟩
  have hk := h.kept m v x hv hx
  obtain ⟨b, c, rfl, _⟩ := hk.form
  have hc := own_cell h.mrow hv
  exact ⟨b, c, hc, own_liesR hk.row, World.block_lt_of_cell? _ _ hc⟩
end
set_option maxRecDepth 100000
theorem rises_any {w : World} {A B : Option Addr} {c c' n : Nat} {xs ys : List Int} (h : LiesR w A xs) (h' : LiesR w B ys) (hx : xs.length = n) (hy : ys.length = n) (hl : n ≤ 1000000) :
    Calls Try.prog 27 #[.slice A n c, .slice B n c'] w fun e w' => ∃ r, e = .returned (.bool r) ∧ (RiseQ xs ys → r = true) ∧ ∃ m, w' = w.drewN m := by
  have H := Lib.hid h
  have H' := Lib.hid h'
  have HX := Lib.hid hx
  have HY := Lib.hid hy
  have hnn : ((n : Int) != (n : Int)) = false := by simp
  clear h h' hx hy
  go_enter Try.func27, Try.ntmps27
  go_wp2
  go_loopw [5] (fun i wr => ∃ k : Nat, k ≤ n ∧ i = .int .i64 k ∧ ∃ m, wr = w.drewN m) (fun i _ => n - (intOf i).toNat)
  case atStart => exact ⟨0, Nat.zero_le _, rfl, 0, rfl⟩
  case round =>
    obtain ⟨k, hk, rfl, m, rfl⟩ := hrel
    by_cases hlt : k < n
    · obtain ⟨x, hx⟩ : ∃ x, xs[k]? = some x := ⟨xs[k]'(by rw [HX.out]; exact hlt), List.getElem?_eq_getElem _⟩
      obtain ⟨y, hy⟩ : ∃ y, ys[k]? = some y := ⟨ys[k]'(by rw [HY.out]; exact hlt), List.getElem?_eq_getElem _⟩
      obtain ⟨g, rfl, hc0, hc1⟩ := H.out k x hx
      obtain ⟨g', rfl, hd0, hd1⟩ := H'.out k y hy
      have hlt' : (k : Int) < (n : Int) := by omega
      have HXk := Lib.hid hx
      have HYk := Lib.hid hy
      clear hx hy hc1 hd1
      by_cases hxy : numW y < numW x
      · have hxx : decide (numW y < numW x) = true := by simpa using hxy
        have HN : Hid (¬ RiseQ xs ys) := Lib.hid (fun e => by have := e k x y HXk.out HYk.out; omega)
        clear hxy
        go_wp2
        go_quiet (fail)
        go_wp2
        go_ret
        exact ⟨_, rfl, fun e => absurd e HN.out, _, World.drewN_drewN ..⟩
      · have hxx : decide (numW y < numW x) = false := by simpa using hxy
        clear hxy
        go_wp2
        go_quiet (fail)
        go_wp2
        go_roundw
        case rel => exact ⟨k + 1, by omega, by go_num, _, rfl⟩
        case measure => simp [intOf]; omega
    · obtain rfl : k = n := by omega
      go_wp2
      go_ret
      exact ⟨_, rfl, fun _ => rfl, m, rfl⟩
theorem rises_yes {w : World} {A B : Option Addr} {c c' n : Nat} {xs ys : List Int} (h : LiesR w A xs) (h' : LiesR w B ys) (hx : xs.length = n) (hy : ys.length = n) (hl : n ≤ 1000000) (hr : RiseQ xs ys) :
    Calls Try.prog 27 #[.slice A n c, .slice B n c'] w fun e w' => e = .returned (.bool true) ∧ ∃ m, w' = w.drewN m :=
  (rises_any h h' hx hy hl).mono fun _ _ ⟨_, a, b, c⟩ => ⟨by rw [a, b hr], c⟩
end Go.Proofs.Ytdadgppbpomdoaa
