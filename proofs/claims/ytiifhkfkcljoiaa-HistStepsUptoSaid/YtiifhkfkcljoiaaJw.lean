/- A HISTOGRAM'S OPERATIONS AND THE DOCUMENT'S OWN, SIDE BY SIDE: ALL OF IT. -/
import Derived.Test.YtiifhkfkcljoiaaJv
import Derived.Test.YtiifhkfkcljoiaaIq
import Derived.Test.YtiifhkfkcljoiaaEy
namespace Go.Proofs.Ytiifhkfkcljoiaa
open Go Go.RowKit
set_option maxRecDepth 100000
def zD : DocD := (0, none, 0)
/-- while both lists grow -/
structure Both1 (W : World) (bh bk bw : Nat) (l h d : Int) (m : Nat) (ws : List Int) (us : List (OpH × DocD)) (bs : List Nat) (xs : List (Value × ShM)) (vp vu : Value) (wr : World) : Prop where
  beg : BegK W bh bk bw l h d m ws (us.map (·.1)) bs xs vp wr
  und : wr.ownsRow W.heap.size 46 12 vu bs.length (undCells us)
  sc : Row wr W.heap.size 23 [.int .i64 l, .int .i64 h, .int .i64 d]
  new : ∀ p, p ∈ us → p.2 = zD ∧ p.1.bu = [] ∧ p.1.ld = false ∧ FixH l h d p.1
section
variable {W wr w1 w5 w6 w7 : World} {bh bk bw m : Nat} {l h d : Int} {ws : List Int} {us : List (OpH × DocD)} {bs : List Nat} {xs : List (Value × ShM)} {vp vu : Value}
theorem Both1.len (hM : Both1 W bh bk bw l h d m ws us bs xs vp vu wr) : bs.length = us.length := by have := hM.beg.pends.len; simpa using this
theorem Both1.on (hM : Both1 W bh bk bw l h d m ws us bs xs vp vu wr) (hb : Below wr.heap.size wr w1) : Both1 W bh bk bw l h d m ws us bs xs vp vu w1 :=
  ⟨hM.beg.on hb, own_part hM.und (Part.of_below hb (Nat.le_refl _) []) (by simp), hM.sc.below hb hM.sc.lt, hM.new⟩
theorem Both1.alloc (hM : Both1 W bh bk bw l h d m ws us bs xs vp vu wr) (o : Obj) : Both1 W bh bk bw l h d m ws us bs xs vp vu (wr.alloc o) := hM.on ((Below.refl _ _).alloc (Nat.le_refl _) o)
theorem Both1.nil {w0 : World} (hh : HistM w1 bh bk bw l h d m ws) (hb0 : Below W.heap.size W w0) (hlo : w0.heap.size ≤ bw) (hb : Below w0.heap.size w0 w1) (hs : Row w1 W.heap.size 23 [.int .i64 l, .int .i64 h, .int .i64 d]) : Both1 W bh bk bw l h d m ws [] [] [] (.slice none 0 0) (.slice none 0 0) w1 :=
  ⟨BegK.nil hh hb0 hlo hb, ⟨rfl, .inl ⟨rfl, rfl⟩⟩, hs, fun p hp => by simp at hp⟩
theorem NextH.on {w w1 : World} {bp : Nat} {nx : Value} {s : ShM} {o : OpH} (hn : NextH bp m o w nx s) (hb : Below w.heap.size w w1) : NextH bp m o w1 nx s :=
  hn.stayP (S := []) (fun b t l hr _ _ _ => hr.below hb hr.lt) (fun q hq => by simp at hq) (by simp)
theorem Both1.grow {o : OpH} {bp g6 c6 g7 c7 : Nat} {nx : Value} {ob ob' : Obj} (hM : Both1 W bh bk bw l h d m ws us bs xs vp vu wr) (hb5 : Below wr.heap.size wr w5) (hr5 : Row w5 bp 85 (pendH bh nx zeroS)) (hn : NextH bp m o w5 nx zeroS) (hge : wr.heap.size ≤ bp) (ho : OkH m o) (hF : FixH l h d o) (hbu : o.bu = []) (hld : o.ld = false)
    (h6 : w6.ownsRow W.heap.size 46 12 (.slice (some ⟨g6, 0, none⟩) (bs.length + 1) c6) (bs.length + 1) (undCells us ++ undL o zD)) (hg6 : (w5.alloc ob).grownBy w6 vu.ownBlock)
    (h7 : w7.ownsRow W.heap.size 34 1 (.slice (some ⟨g7, 0, none⟩) (bs.length + 1) c7) (bs.length + 1) (ptrs bs ++ [.pointer (some ⟨bp, 0, none⟩)])) (hg7 : (w6.alloc ob').grownBy w7 vp.ownBlock) (hat7 : vp.ownBlock = some g7 ∨ g7 = (w6.alloc ob').heap.size) :
    Both1 W bh bk bw l h d m ws (us ++ [(o, zD)]) (bs ++ [bp]) (xs ++ [(nx, zeroS)]) (.slice (some ⟨g7, 0, none⟩) (bs.length + 1) c7) (.slice (some ⟨g6, 0, none⟩) (bs.length + 1) c6) w7 := by
  have a1 := (hM.beg.add hb5 hr5 hn hge ho).alloc ob
  have u1 : (w5.alloc ob).ownsRow W.heap.size 46 12 vu bs.length (undCells us) := ((hM.on hb5).alloc ob).und
  have s1 := ((hM.on hb5).alloc ob).sc
  have a3 := (a1.grown u1 hg6 (.inl rfl)).alloc ob'
  have s3 := (s1.grown hg6 (own_not_in u1 s1 (by decide))).alloc ob'
  have u6 := h6.alloc ob'
  have e : us.map (·.1) ++ [o] = (us ++ [(o, zD)]).map (·.1) := by simp
  refine ⟨?_, ?_, s3.grown hg7 (own_not_in a3.beg.ps s3 (by decide)), fun p hp => ?_⟩
  · rw [← e]
    exact a3.done h7 hg7 hat7
  · rw [List.length_append, List.length_singleton, ← undCells_snoc]
    exact u6.kept hg7 (own_apart u6 a3.beg.ps (by decide))
  · rw [List.mem_append] at hp
    rcases hp with hp | hp
    · exact hM.new p hp
    · simp at hp
      subst hp
      exact ⟨rfl, hbu, hld, hF⟩
end
/-- all begun; the document's cells -/
structure Both2 (W : World) (bh bk bw : Nat) (l h d : Int) (m : Nat) (ws : List Int) (us : List (OpH × DocD)) (bs : List Nat) (xs : List (Value × ShM)) (vp : Value) (A : Option Addr) (vu : Value) (wr : World) : Prop where
  many : ManyH W bh bk bw l h d m ws (us.map (·.1)) bs xs vp wr
  doc : DocH W bs.length bs bw xs l h d A ws us vu wr
  sc : Row wr W.heap.size 23 [.int .i64 l, .int .i64 h, .int .i64 d]
section
variable {W wr w1 w2 w3 wz : World} {bh bk bw m q b : Nat} {l h d : Int} {ws ws' : List Int} {us : List (OpH × DocD)} {bs : List Nat} {xs xs' : List (Value × ShM)} {vp vu : Value} {A A' : Option Addr}
theorem PendsH.bus {w : World} {lo : Nat} {os : List OpH} (hM : PendsH w lo bh m os bs xs) : ∀ x, x ∈ xs → ∀ q, x.2.bv.ownBlock = some q → q < w.heap.size := fun x hx q hq => by
  obtain ⟨p, hp⟩ := List.getElem?_of_mem hx
  obtain ⟨o, b', x', _, _, h3, hpp⟩ := hM.get (q := p) (by rw [hM.len, ← hM.lenx]; exact lt_of_get hp)
  rw [hp] at h3
  cases h3
  obtain ⟨_, l', hr, _⟩ := hpp.bu q hq
  exact hr.lt
theorem Both1.both {g : Nat} (hM : Both1 W bh bk bw l h d m ws us bs xs vp vu wr) (hb : Below wr.heap.size wr w1) (hE : Ext .u64 w1 (some ⟨g, 0, none⟩) ws) (hg : wr.heap.size ≤ g) (hg2 : g < w1.heap.size) : Both2 W bh bk bw l h d m ws us bs xs vp (some ⟨g, 0, none⟩) vu w1 := by
  have h1 := hM.on hb
  have hp := hM.beg.pends
  refine ⟨h1.beg.many, ⟨h1.und, hM.len.symm, hE, ?_, fun p hp' => ?_, fun p hp' => ?_⟩, h1.sc⟩
  · refine ClearH.fresh (H := wr.heap.size) (fun a ha => by cases ha; exact ⟨hg, hg2⟩) (fun x hx => (hp.lt x hx).1) hM.beg.hist.words.row.lt (fun q hq => ?_) hp.bus
    rcases hM.und.2 with ⟨e, _⟩ | ⟨g', _, cur, e, _, hh, _⟩
    · rw [e] at hq; cases hq
    · rw [e] at hq; cases hq; exact lt_of_block hh
  · obtain ⟨e1, e2, _⟩ := hM.new p hp'
    rw [e1, e2]
    exact ⟨ext_nil _, fun a ha => by cases ha⟩
  · obtain ⟨_, _, e3, e4⟩ := hM.new p hp'
    exact ⟨(fun e => by rw [e3] at e; cases e), e4⟩
theorem Both2.on (hM : Both2 W bh bk bw l h d m ws us bs xs vp A vu wr) (hb : Below wr.heap.size wr w1) : Both2 W bh bk bw l h d m ws us bs xs vp A vu w1 := ⟨hM.many.on hb, hM.doc.on hb, hM.sc.below hb hM.sc.lt⟩
theorem Both2.alloc (hM : Both2 W bh bk bw l h d m ws us bs xs vp A vu wr) (o : Obj) : Both2 W bh bk bw l h d m ws us bs xs vp A vu (wr.alloc o) := hM.on ((Below.refl _ _).alloc (Nat.le_refl _) o)
theorem Both2.drew (hM : Both2 W bh bk bw l h d m ws us bs xs vp A vu wr) : Both2 W bh bk bw l h d m ws us bs xs vp A vu wr.drew := hM.on (Below.refl _ _).drew
theorem Both2.get (hM : Both2 W bh bk bw l h d m ws us bs xs vp A vu wr) (hq : q < bs.length) : ∃ o s b x g c gu cu, us[q]? = some (o, s) ∧ bs[q]? = some b ∧ xs[q]? = some x ∧ vp = .slice (some ⟨g, 0, none⟩) bs.length c ∧ vu = .slice (some ⟨gu, 0, none⟩) bs.length cu ∧ wr.cell? ⟨g, q, none⟩ = some (.pointer (some ⟨b, 0, none⟩)) ∧ PendH wr W.heap.size bh m o b x := by
  obtain ⟨o, b, x, g, c, h1, h2, h3, h4, h5, h6⟩ := hM.many.get hq
  obtain ⟨gu, cu, h7, _, _⟩ := own_some hM.doc.und (by omega)
  simp only [List.getElem?_map, Option.map_eq_some_iff] at h1
  obtain ⟨⟨o2, s⟩, h8, h9⟩ := h1
  dsimp only at h9
  subst h9
  exact ⟨o2, s, b, x, g, c, gu, cu, h8, h2, h3, h4, h7, h5, h6⟩
/-- the program's operation has been stepped -/
structure Coded (W : World) (bh bk bw : Nat) (l h d : Int) (m : Nat) (ws ws' : List Int) (us : List (OpH × DocD)) (q : Nat) (o' : OpH) (bs : List Nat) (xs : List (Value × ShM)) (vp : Value) (A : Option Addr) (vu : Value) (w2 : World) : Prop where
  many : ManyH W bh bk bw l h d m ws' ((us.map (·.1)).set q o') bs xs vp w2
  doc : DocH W bs.length bs bw xs l h d A ws us vu w2
  sc : Row w2 W.heap.size 23 [.int .i64 l, .int .i64 h, .int .i64 d]
theorem Coded.on {o' : OpH} (hC : Coded W bh bk bw l h d m ws ws' us q o' bs xs vp A vu wr) (hb : Below wr.heap.size wr w1) : Coded W bh bk bw l h d m ws ws' us q o' bs xs vp A vu w1 := ⟨hC.many.on hb, hC.doc.on hb, hC.sc.below hb hC.sc.lt⟩
theorem Both2.coded {o : OpH} {s : DocD} {x : Value × ShM} {e : Ending} (hM : Both2 W bh bk bw l h d m ws us bs xs vp A vu wr) (hm : m ≠ 1) (hq : us[q]? = some (o, s)) (hb : bs[q]? = some b) (hx : xs[q]? = some x) (hs : SteppedH wr b bh bk bw l h d m ws o x.2 e w2) :
    ∃ xs', Coded W bh bk bw l h d m ws (stepW m ws o) us q (stepH m ws o) bs xs' vp A vu w2 ∧ wr.heap.size ≤ w2.heap.size := by
  have ho : (us.map (·.1))[q]? = some o := by simp [hq]
  obtain ⟨x', h1, h2, T, h3, h4⟩ := hM.many.step hm ho hb hx hs
  refine ⟨xs.set q x', ⟨h1, hM.doc.coded hM.many hb hx h2 h3 h4, hM.sc.part h4 (fun hk => ?_)⟩, h4.size⟩
  obtain ⟨_, b', x2, _, e2, e3, hp⟩ := hM.many.pends.get (lt_of_get hb)
  rw [hb] at e2
  cases e2
  rw [hx] at e3
  cases e3
  simp only [List.mem_cons] at hk
  rcases hk with e | e | e
  · exact hM.sc.ne hp.row (by decide) e
  · exact hM.sc.ne hM.many.hist.words.row (by decide) e
  · obtain ⟨_, l', a1, _⟩ := hp.bu _ (h3 _ e)
    exact hM.sc.ne a1 (by decide) rfl
/-- and now the document's own -/
theorem Coded.both {S : List Nat} {o o' : OpH} {s s' : DocD} {gu cu : Nat} {wd : World} (hC : Coded W bh bk bw l h d m ws ws' us q o' bs xs vp A vu w2) (hv : vu = .slice (some ⟨gu, 0, none⟩) bs.length cu) (hq : us[q]? = some (o, s)) (hbd : Below w2.heap.size w2 wd) (hsd : w2.heap.size + 2 ≤ wd.heap.size) (hb3 : Below wd.heap.size wd w3) (hA : Ext .u64 w3 A' ws') (hA' : A' = A ∨ ∀ a, A' = some a → wd.heap.size ≤ a.block ∧ a.block < w3.heap.size)
    (hB : Ext .u64 w3 s'.2.1 o'.bu) (hB' : s'.2.1 = s.2.1 ∨ ∀ a, s'.2.1 = some a → wd.heap.size ≤ a.block ∧ a.block < w3.heap.size) (hs : o'.ld = true → s'.1 = o'.saw) (hF : FixH l h d o') (hP : Part S (undSet w3 gu (q * 12) o' s') wz) (hS : ∀ r, r ∈ S → r = w2.heap.size ∨ r = w2.heap.size + 1 ∨ w3.heap.size ≤ r) :
    Both2 W bh bk bw l h d m ws' (us.set q (o', s')) bs xs vp A' vu wz := by
  have hb2 : Below w2.heap.size w2 w3 := hbd.trans (hb3.mono hbd.size)
  have sz := hb2.size
  have w : ∀ (B B0 : Option Addr), (B = B0 ∨ ∀ a, B = some a → wd.heap.size ≤ a.block ∧ a.block < w3.heap.size) → B = B0 ∨ ∀ a, B = some a → w2.heap.size ≤ a.block ∧ a.block < w3.heap.size := fun B B0 h => h.imp id (fun f a ha => ⟨by have := (f a ha).1; omega, (f a ha).2⟩)
  have nb : ∀ (B B0 : Option Addr), (∀ a, B0 = some a → a.block < w2.heap.size) → (B = B0 ∨ ∀ a, B = some a → wd.heap.size ≤ a.block ∧ a.block < w3.heap.size) → ∀ a, B = some a → a.block ≠ w2.heap.size ∧ a.block ≠ w2.heap.size + 1 := fun B B0 h0 h a ha => by
    rcases h with e | h
    · have := h0 a (e ▸ ha)
      omega
    · have := h a ha
      omega
  have na := nb _ _ (fun a ha => (hC.doc.ac a ha).1) hA'
  have ns := nb _ _ (fun a ha => ((hC.doc.bu (o, s) (List.mem_of_getElem? hq)).2 a ha).1) hB'
  have hD := hC.doc.both hv (fun x hx => (hC.many.pends.lt x hx).1) hC.many.hist.words.row.lt hC.many.pends.bus hq hb2 hA (w _ _ hA') hB (w _ _ hB') hs hF hP (fun r hr => by
    rcases hS r hr with e | e | e
    · exact .inr ⟨by omega, fun a ha => by have := na a ha; omega, fun a ha => by have := ns a ha; omega⟩
    · exact .inr ⟨by omega, fun a ha => by have := na a ha; omega, fun a ha => by have := ns a ha; omega⟩
    · exact .inl e)
  have hund := hC.doc.und
  rw [hv] at hund
  obtain ⟨lu, hru⟩ := own_rowK hund
  have P2 : Part [gu] w2 wz := ((Part.of_below hb2 (Nat.le_refl _) [gu]).trans (und_part w3 gu (q * 12) o' s') (fun r _ hr => hr)).trans hP (fun r hr hm => by
    have := hS r hm
    omega)
  have hm := hC.many.off hru (own_from hund gu rfl) P2 (by decide) (by decide) (by decide) (by decide) (by decide) (by decide) (fun l' => by simp [boxB])
  have em : (us.map (·.1)).set q o' = (us.set q (o', s')).map (·.1) := by rw [List.map_set]
  rw [em] at hm
  refine ⟨hm, hD, hC.sc.part P2 (by simpa using hC.sc.ne hru (by decide))⟩
end
theorem Both2.at_ {W wr : World} {bh bk bw m q b : Nat} {l h d : Int} {ws : List Int} {us : List (OpH × DocD)} {bs : List Nat} {xs : List (Value × ShM)} {vp vu : Value} {A : Option Addr} {o : OpH} {s : DocD} (hM : Both2 W bh bk bw l h d m ws us bs xs vp A vu wr) (hq : us[q]? = some (o, s)) (hb : bs[q]? = some b) : ∃ x, xs[q]? = some x ∧ PendH wr W.heap.size bh m o b x := by
  obtain ⟨o2, b2, x, h1, h2, h3, h4⟩ := hM.many.pends.get (lt_of_get hb)
  rw [hb] at h2
  cases h2
  simp only [List.getElem?_map, hq, Option.map_some] at h1
  cases h1
  exact ⟨x, h3, h4⟩
/-- the operations of a list that are right, the document's own -/
def pickH (l h d : Int) (ops : List (Int × Int × Int)) : List (OpH × DocD) := ops.filterMap fun op => if rightO h op.1 op.2.1 op.2.2 then some (opH l d op.1 op.2.1 op.2.2, zD) else none
theorem pickH_take {l h d : Int} (ops : List (Int × Int × Int)) {j : Nat} {op : Int × Int × Int} (hj : ops[j]? = some op) :
    pickH l h d (ops.take (j + 1)) = pickH l h d (ops.take j) ++ (if rightO h op.1 op.2.1 op.2.2 then [(opH l d op.1 op.2.1 op.2.2, zD)] else []) := by
  rw [List.take_add_one, hj]
  unfold pickH
  rw [List.filterMap_append]
  congr 1
  cases hb : rightO h op.1 op.2.1 op.2.2 <;> simp [hb]
theorem pickH_length {l h d : Int} (ops : List (Int × Int × Int)) : (pickH l h d ops).length ≤ ops.length := List.length_filterMap_le _ _
theorem opH_new {l d k v n : Int} : (opH l d k v n).bu = [] ∧ (opH l d k v n).ld = false := by
  unfold opH
  split <;> exact ⟨rfl, rfl⟩
/-- as the law makes the document's record of it -/
theorem opH_und {l h d k v n : Int} (hR : rightO h k v n = true) : undL (opH l d k v n) zD = [.int .u8 k, .int .i64 v, .int .u64 n, .int .i64 0, .bool false, .int .u64 0, .bool false, .int .u64 0, .int .u64 0, .int .i64 0, .int .i64 0, .slice none 0 0] := by
  unfold opH
  by_cases h1 : k = 1
  · subst h1
    rfl
  · by_cases h2 : k = 2
    · subst h2
      obtain ⟨rfl, rfl⟩ := right_of_show hR
      rfl
    · rw [right_kind h1 h2] at hR
      cases hR
/-- what its Answer is told, beside the document's -/
theorem hans_wait {w : World} {bp bh m : Nat} {nx : Value} {o : OpH} {s : ShM} (hp : Row w bp 85 (pendH bh nx s)) (hn : NextH bp m o w nx s) (he : o.en = false) :
    Calls Try.prog 20 #[.pointer (some ⟨bp, 0, none⟩)] w fun e w' => e = .returned (.agg #[.int .u64 0, .int .u64 0, .int .i64 0, .int .i64 0, .slice none 0 0]) ∧ Below w.heap.size w w' := by
  obtain ⟨f, cs, rfl⟩ := hn.fn he
  exact hanswer_wait hp
theorem hover_at {w : World} {bp bh m : Nat} {nx : Value} {o : OpH} {s : ShM} (hp : Row w bp 85 (pendH bh nx s)) (hn : NextH bp m o w nx s) (he : o.en = true) :
    Calls Try.prog 16 #[.pointer (some ⟨bp, 0, none⟩)] w fun e w' => e = .returned (.tuple #[.agg #[.int .u8 0, .int .i64 0, .int .u64 0, .int .u64 0, .bool false], .bool true]) ∧ Below w.heap.size w w' := by
  obtain rfl := hn.nil_ he
  exact step_ended hp
end Go.Proofs.Ytiifhkfkcljoiaa
