/- THE WALKS of package hist: what comes next stays, whatever else turns; operations that are all under way. -/
import Derived.Test.YtiifhkfkcljoiaaIp
import Derived.Test.YtiifhkfkcljoiaaOw
namespace Go.Proofs.Ytiifhkfkcljoiaa
open Go Go.RowKit
set_option maxRecDepth 100000
/-- all blocks are as they were, but some, and those that a law keeps its own lists in -/
def Kept (S : List Nat) (w w1 : World) : Prop := ∀ b t l, Row w b t l → t ≠ 46 → t ≠ 40 → b ∉ S → Row w1 b t l
/-- may a block be a box of what comes next? -/
def boxB (t : TypeId) (l : List Value) : Bool := (t == 129) || (l.length == 1 && [34, 130, 108, 1, 118, 38, 3].contains t)
/-- blocks that are no boxes of what comes next of the operation at bp -/
def HardP (bp : Nat) (S : List Nat) (w : World) : Prop := ∀ q, q ∈ S → ∃ t l, Row w q t l ∧ (boxB t l = false ∨ (t = 34 ∧ l ≠ [.pointer (some ⟨bp, 0, none⟩)]))
theorem Kept.of_part {S : List Nat} {w w1 : World} (h : Part S w w1) : Kept S w w1 := fun _ _ _ hr _ _ hb => hr.part h hb
theorem row_inj {w : World} {b : Nat} {t t' : TypeId} {l l' : List Value} (h : Row w b t l) (h' : Row w b t' l') : t = t' ∧ l = l' := by
  unfold Row at h h'
  rw [h] at h'
  simp at h'
  exact ⟨h'.2, h'.1⟩
theorem Row.stayX {S : List Nat} {w w1 : World} {b bp : Nat} {t : TypeId} {l : List Value} (h : Row w b t l) (hK : Kept S w w1) (hS : HardP bp S w) (ht : boxB t l = true) (hn : t ≠ 34) (n1 : t ≠ 46 := by decide) (n2 : t ≠ 40 := by decide) : Row w1 b t l :=
  hK _ _ _ h n1 n2 fun hm => by
    obtain ⟨t', l', hr, hh⟩ := hS b hm
    obtain ⟨rfl, rfl⟩ := row_inj h hr
    rcases hh with hh | hh
    · rw [ht] at hh; cases hh
    · exact hn hh.1
theorem Row.stayQ {S : List Nat} {w w1 : World} {b bp : Nat} (h : Row w b 34 [.pointer (some ⟨bp, 0, none⟩)]) (hK : Kept S w w1) (hS : HardP bp S w) : Row w1 b 34 [.pointer (some ⟨bp, 0, none⟩)] :=
  hK _ _ _ h (by decide) (by decide) fun hm => by
    obtain ⟨t', l', hr, hh⟩ := hS b hm
    obtain ⟨rfl, rfl⟩ := row_inj h hr
    rcases hh with hh | hh
    · exact absurd hh (by simp [boxB])
    · exact hh.2 rfl
section
variable {S : List Nat} {w w1 : World} {bp : Nat} {nx t u : Value} {k c o n x by_ saw nb v i : Int} {f : FuncId} {b0 b1 b2 bb bt bq bc bx : Nat}
theorem ActH.stayP (h : ActH w bp nx k c o n t) (hK : Kept S w w1) (hS : HardP bp S w) : ActH w1 bp nx k c o n t := by
  obtain ⟨b1, b2, b3, e, h1, h2, h3⟩ := h
  exact ⟨b1, b2, b3, e, h1.stayQ hK hS, h2.stayX hK hS (by rfl) (by decide), h3.stayX hK hS (by rfl) (by decide)⟩
theorem LoadH.stayP (h : LoadH w bp nx c u) (hK : Kept S w w1) (hS : HardP bp S w) : LoadH w1 bp nx c u := by
  obtain ⟨b, h1, h2⟩ := h
  exact ⟨b, h1.stayP hK hS, h2.stayX hK hS (by rfl) (by decide)⟩
theorem AddH.stayP (h : AddH w bp nx c by_ u) (hK : Kept S w w1) (hS : HardP bp S w) : AddH w1 bp nx c by_ u := by
  obtain ⟨b, h1, h2⟩ := h
  exact ⟨b, h1.stayP hK hS, h2.stayX hK hS (by rfl) (by decide)⟩
theorem KeepB.stayP (h : KeepB w bp f t c x bb bt bq bc bx) (hK : Kept S w w1) (hS : HardP bp S w) : KeepB w1 bp f t c x bb bt bq bc bx := by
  obtain ⟨bv, h1, h2, h3, h4, h5, h6⟩ := h
  exact ⟨bv, h1.stayX hK hS (by rfl) (by decide), h2.stayX hK hS (by rfl) (by decide), h3.stayX hK hS (by rfl) (by decide), h4.stayQ hK hS, h5.stayX hK hS (by rfl) (by decide), h6.stayX hK hS (by rfl) (by decide)⟩
theorem KeepH.stayP (h : KeepH w bp nx f t c x) (hK : Kept S w w1) (hS : HardP bp S w) : KeepH w1 bp nx f t c x := by
  obtain ⟨bb, bt, bq, bc, bx, h1, h2⟩ := h
  exact ⟨bb, bt, bq, bc, bx, h1.stayP hK hS, h2.stayP hK hS⟩
theorem CasH.stayP (h : CasH w bp nx f t c saw x) (hK : Kept S w w1) (hS : HardP bp S w) : CasH w1 bp nx f t c saw x := by
  obtain ⟨bb, bt, bq, bc, bx, h1, h2⟩ := h
  exact ⟨bb, bt, bq, bc, bx, h1.stayP hK hS, h2.stayP hK hS⟩
theorem RecB.stayP (h : RecB w bp v n b0 b1 b2) (hK : Kept S w w1) (hS : HardP bp S w) : RecB w1 bp v n b0 b1 b2 := ⟨h.p.stayQ hK hS, h.v.stayX hK hS (by rfl) (by decide), h.n.stayX hK hS (by rfl) (by decide)⟩
theorem R0H.stayP (h : R0H w bp nx i v n) (hK : Kept S w w1) (hS : HardP bp S w) : R0H w1 bp nx i v n := by
  obtain ⟨b0, b1, b2, h1, h2⟩ := h
  exact ⟨b0, b1, b2, h1.stayP hK hS, h2.stayP hK hS⟩
theorem R1H.stayP (h : R1H w bp nx nb v n) (hK : Kept S w w1) (hS : HardP bp S w) : R1H w1 bp nx nb v n := by
  obtain ⟨b0, b1, b2, h1, h2⟩ := h
  exact ⟨b0, b1, b2, h1.stayP hK hS, h2.stayP hK hS⟩
theorem R2H.stayP (h : R2H w bp nx nb v n) (hK : Kept S w w1) (hS : HardP bp S w) : R2H w1 bp nx nb v n := by
  obtain ⟨b0, b1, b2, h1, h2⟩ := h
  exact ⟨b0, b1, b2, h1.stayP hK hS, h2.stayP hK hS⟩
theorem C2H.stayP (h : C2H w bp nx nb v n saw) (hK : Kept S w w1) (hS : HardP bp S w) : C2H w1 bp nx nb v n saw := by
  obtain ⟨b0, b1, b2, h1, h2⟩ := h
  exact ⟨b0, b1, b2, h1.stayP hK hS, h2.stayP hK hS⟩
theorem R3H.stayP (h : R3H w bp nx nb v n) (hK : Kept S w w1) (hS : HardP bp S w) : R3H w1 bp nx nb v n := by
  obtain ⟨b0, b1, b2, h1, h2⟩ := h
  exact ⟨b0, b1, b2, h1.stayP hK hS, h2.stayP hK hS⟩
theorem C3H.stayP (h : C3H w bp nx nb v n saw) (hK : Kept S w w1) (hS : HardP bp S w) : C3H w1 bp nx nb v n saw := by
  obtain ⟨b0, b1, b2, h1, h2⟩ := h
  exact ⟨b0, b1, b2, h1.stayP hK hS, h2.stayP hK hS⟩
theorem R4H.stayP (h : R4H w bp nx nb n) (hK : Kept S w w1) (hS : HardP bp S w) : R4H w1 bp nx nb n := AddH.stayP h hK hS
theorem S1H.stayP (h : S1H w bp nx nb) (hK : Kept S w w1) (hS : HardP bp S w) : S1H w1 bp nx nb := by
  obtain ⟨b0, h1, h2⟩ := h
  exact ⟨b0, h1.stayP hK hS, h2.stayQ hK hS⟩
theorem S2H.stayP (h : S2H w bp nx nb) (hK : Kept S w w1) (hS : HardP bp S w) : S2H w1 bp nx nb := by
  obtain ⟨b0, h1, h2⟩ := h
  exact ⟨b0, h1.stayP hK hS, h2.stayQ hK hS⟩
theorem S3H.stayP (h : S3H w bp nx nb) (hK : Kept S w w1) (hS : HardP bp S w) : S3H w1 bp nx nb := by
  obtain ⟨b0, h1, h2⟩ := h
  exact ⟨b0, h1.stayP hK hS, h2.stayQ hK hS⟩
theorem S4H.stayP (h : S4H w bp nx nb) (hK : Kept S w w1) (hS : HardP bp S w) : S4H w1 bp nx nb := by
  obtain ⟨b0, h1, h2⟩ := h
  exact ⟨b0, h1.stayP hK hS, h2.stayQ hK hS⟩
theorem GatH.stayP (h : GatH w bp nx c) (hK : Kept S w w1) (hS : HardP bp S w) : GatH w1 bp nx c := by
  obtain ⟨b0, h1, h2⟩ := h
  exact ⟨b0, h1.stayP hK hS, h2.stayQ hK hS⟩
end
theorem NextR.stayP {S : List Nat} {w w1 : World} {bp m : Nat} {nx : Value} {o : OpH} (h : NextR bp m o w nx) (hK : Kept S w w1) (hS : HardP bp S w) : NextR bp m o w1 nx := by
  rcases h with h | ⟨a, b, c, h⟩ | ⟨a, b, c, h⟩ | ⟨a, b, c, h⟩ | ⟨a, b, c, h⟩ | ⟨a, b, c, h⟩ | ⟨a, b, c, h⟩ | ⟨a, b, c, h⟩
  · exact .inl h
  · exact .inr (.inl ⟨a, b, c, h.stayP hK hS⟩)
  · exact .inr (.inr (.inl ⟨a, b, c, h.stayP hK hS⟩))
  · exact .inr (.inr (.inr (.inl ⟨a, b, c, h.stayP hK hS⟩)))
  · exact .inr (.inr (.inr (.inr (.inl ⟨a, b, c, h.stayP hK hS⟩))))
  · exact .inr (.inr (.inr (.inr (.inr (.inl ⟨a, b, c, h.stayP hK hS⟩)))))
  · exact .inr (.inr (.inr (.inr (.inr (.inr (.inl ⟨a, b, c, h.stayP hK hS⟩))))))
  · exact .inr (.inr (.inr (.inr (.inr (.inr (.inr ⟨a, b, c, R4H.stayP h hK hS⟩))))))
theorem NextS.stayP {S : List Nat} {w w1 : World} {bp m : Nat} {nx : Value} {o : OpH} (h : NextS bp m o w nx) (hK : Kept S w w1) (hS : HardP bp S w) : NextS bp m o w1 nx := by
  rcases h with ⟨a, h⟩ | ⟨a, h⟩ | ⟨a, h⟩ | ⟨a, h⟩
  · exact .inl ⟨a, h.stayP hK hS⟩
  · exact .inr (.inl ⟨a, h.stayP hK hS⟩)
  · exact .inr (.inr (.inl ⟨a, h.stayP hK hS⟩))
  · exact .inr (.inr (.inr ⟨a, h.stayP hK hS⟩))
theorem NextH.stayP {S : List Nat} {w w1 : World} {bp m : Nat} {nx : Value} {o : OpH} {s : ShM} (h : NextH bp m o w nx s) (hK : Kept S w w1) (hS : HardP bp S w) (hb : ∀ q, s.bv.ownBlock = some q → q ∉ S) : NextH bp m o w1 nx s := by
  obtain ⟨he, ⟨a, b, c, h⟩ | ⟨a, b, ⟨c, d, e, h⟩ | ⟨bb, c, hr, d, h⟩⟩⟩ := h
  · exact ⟨he, .inl ⟨a, b, c, h.stayP hK hS⟩⟩
  · exact ⟨he, .inr ⟨a, b, .inl ⟨c, d, e, h.stayP hK hS⟩⟩⟩
  · refine ⟨he, .inr ⟨a, b, .inr ⟨bb, c, hK _ _ _ hr (by decide) (by decide) (hb bb (by rw [c]; rfl)), d, ?_⟩⟩⟩
    rcases h with ⟨e, f, h⟩ | h
    · exact .inl ⟨e, f, h.stayP hK hS⟩
    · exact .inr h
/-- one operation, its box, what comes next of it -/
structure PendH (w : World) (lo bh m : Nat) (o : OpH) (b : Nat) (x : Value × ShM) : Prop where
  row : Row w b 85 (pendH bh x.1 x.2)
  next : NextH b m o w x.1 x.2
  ok : OkH m o
  low : lo ≤ b
  bu : ∀ q, x.2.bv.ownBlock = some q → lo ≤ q ∧ ∃ l, Row w q 38 l ∧ l.length = m
theorem NextH.bucket {w : World} {bp m : Nat} {nx : Value} {o : OpH} {s : ShM} (h : NextH bp m o w nx s) : ∀ q, s.bv.ownBlock = some q → ∃ l, Row w q 38 l ∧ l.length = m := fun q hq => by
  obtain ⟨_, ⟨_, _, c, _⟩ | ⟨_, _, ⟨_, _, e, _⟩ | ⟨bb, c, hr, _, h⟩⟩⟩ := h
  · rw [c] at hq; cases hq
  · rw [e] at hq; cases hq
  · rw [c] at hq
    cases hq
    refine ⟨_, hr, ?_⟩
    simp [u64s]
    rcases h with ⟨_, h, _⟩ | ⟨_, h, _⟩ <;> omega
theorem PendH.keep {S : List Nat} {w w1 : World} {lo bh m b : Nat} {o : OpH} {x : Value × ShM} (h : PendH w lo bh m o b x) (hK : Kept S w w1) (hS : HardP b S w) (hb : b ∉ S) (hq : ∀ q, x.2.bv.ownBlock = some q → q ∉ S) : PendH w1 lo bh m o b x :=
  ⟨hK _ _ _ h.row (by decide) (by decide) hb, h.next.stayP hK hS hq, h.ok, h.low, fun q e => ⟨(h.bu q e).1, by obtain ⟨l, hr, hl⟩ := (h.bu q e).2; exact ⟨l, hK _ _ _ hr (by decide) (by decide) (hq q e), hl⟩⟩⟩
/-- operations of a list that are all under way, each in a block of its own, their buckets apart -/
structure PendsH (w : World) (lo bh m : Nat) (os : List OpH) (bs : List Nat) (xs : List (Value × ShM)) : Prop where
  len : bs.length = os.length
  lenx : xs.length = os.length
  all : ∀ (q : Nat) (o : OpH) (b : Nat) (x : Value × ShM), os[q]? = some o → bs[q]? = some b → xs[q]? = some x → PendH w lo bh m o b x
  nodup : bs.Nodup
  apart : ∀ (p q : Nat) (x y : Value × ShM) (g : Nat), xs[p]? = some x → xs[q]? = some y → x.2.bv.ownBlock = some g → y.2.bv.ownBlock = some g → p = q
section
variable {w w1 : World} {lo bh m : Nat} {os : List OpH} {bs : List Nat} {xs : List (Value × ShM)}
theorem PendsH.nil (w : World) (lo bh m : Nat) : PendsH w lo bh m [] [] [] := ⟨rfl, rfl, by simp, by simp, by simp⟩
theorem PendsH.get (h : PendsH w lo bh m os bs xs) {q : Nat} (hq : q < bs.length) : ∃ o b x, os[q]? = some o ∧ bs[q]? = some b ∧ xs[q]? = some x ∧ PendH w lo bh m o b x := by
  have h1 : os[q]? = some (os[q]'(by rw [← h.len]; exact hq)) := List.getElem?_eq_getElem _
  have h2 : bs[q]? = some bs[q] := List.getElem?_eq_getElem hq
  have h3 : xs[q]? = some (xs[q]'(by rw [h.lenx, ← h.len]; exact hq)) := List.getElem?_eq_getElem _
  exact ⟨_, _, _, h1, h2, h3, h.all q _ _ _ h1 h2 h3⟩
theorem PendsH.lt (h : PendsH w lo bh m os bs xs) : ∀ b, b ∈ bs → b < w.heap.size ∧ lo ≤ b ∧ ∃ l, Row w b 85 l := fun b hb => by
  obtain ⟨q, hq⟩ := List.getElem?_of_mem hb
  obtain ⟨o, b', x, _, h2, _, hp⟩ := h.get (lt_of_get hq)
  rw [hq] at h2
  cases h2
  exact ⟨hp.row.lt, hp.low, _, hp.row⟩
/-- whatever turns that is no operation's -/
theorem PendsH.keep {S : List Nat} (h : PendsH w lo bh m os bs xs) (hK : Kept S w w1) (hS : ∀ b, b ∈ bs → HardP b S w) (hb : ∀ b, b ∈ bs → b ∉ S) (hq : ∀ x, x ∈ xs → ∀ q, x.2.bv.ownBlock = some q → q ∉ S) : PendsH w1 lo bh m os bs xs :=
  ⟨h.len, h.lenx, fun q o b x h1 h2 h3 => (h.all q o b x h1 h2 h3).keep hK (hS b (List.mem_of_getElem? h2)) (hb b (List.mem_of_getElem? h2)) (hq x (List.mem_of_getElem? h3)), h.nodup, h.apart⟩
theorem PendsH.on (h : PendsH w lo bh m os bs xs) (hb : Below w.heap.size w w1) : PendsH w1 lo bh m os bs xs :=
  h.keep (S := []) (fun b t l hr _ _ _ => hr.below hb hr.lt) (fun _ _ q hq => by simp at hq) (by simp) (by simp)
/-- behind what turns a block of another type -/
theorem PendsH.off {g : Nat} {t : TypeId} {l : List Value} (h : PendsH w lo bh m os bs xs) (hg : Row w g t l) (hP : Part [g] w w1) (n1 : 85 ≠ t) (n2 : 38 ≠ t) (n3 : ∀ l', boxB t l' = false) : PendsH w1 lo bh m os bs xs := by
  refine h.keep (.of_part hP) (fun b _ q hq => ⟨t, l, ?_, .inl (n3 l)⟩) (fun b hb => ?_) (fun x hx q hq => ?_)
  · rw [List.mem_singleton.1 hq]; exact hg
  · obtain ⟨_, _, l', hr⟩ := h.lt b hb
    simpa using hr.ne hg n1
  · obtain ⟨p, hp⟩ := List.getElem?_of_mem hx
    obtain ⟨o, b', x', _, _, h3, hpp⟩ := h.get (q := p) (by rw [h.len, ← h.lenx]; exact lt_of_get hp)
    rw [hp] at h3
    cases h3
    obtain ⟨_, l', hr, _⟩ := hpp.bu q hq
    simpa using hr.ne hg n2
theorem PendsH.snoc {o : OpH} {b : Nat} {x : Value × ShM} (h : PendsH w lo bh m os bs xs) (hp : PendH w lo bh m o b x) (hb : b ∉ bs) (hx : x.2.bv.ownBlock = none) : PendsH w lo bh m (os ++ [o]) (bs ++ [b]) (xs ++ [x]) := by
  have get3 : ∀ {α : Type} (l : List α) (a c : α) (q : Nat), (l ++ [a])[q]? = some c → (q < l.length ∧ l[q]? = some c) ∨ (q = l.length ∧ c = a) := fun l a c q e => by
    by_cases hq : q < l.length
    · rw [List.getElem?_append_left hq] at e
      exact .inl ⟨hq, e⟩
    · rw [List.getElem?_append_right (by omega)] at e
      have h0 : q - l.length = 0 := by have := lt_of_get e; simp at this; omega
      rw [h0] at e
      simp at e
      exact .inr ⟨by omega, e.symm⟩
  have l1 := h.len
  have l2 := h.lenx
  refine ⟨by simp [l1], by simp [l2], fun q o' b' x' h1 h2 h3 => ?_, ?_, fun p q x1 x2 g h1 h2 e1 e2 => ?_⟩
  · rcases get3 _ _ _ _ h1 with ⟨a1, a2⟩ | ⟨a1, rfl⟩
    · rcases get3 _ _ _ _ h2 with ⟨b1, b2⟩ | ⟨b1, _⟩
      · rcases get3 _ _ _ _ h3 with ⟨c1, c2⟩ | ⟨c1, _⟩
        · exact h.all q _ _ _ a2 b2 c2
        · omega
      · omega
    · rcases get3 _ _ _ _ h2 with ⟨b1, b2⟩ | ⟨_, rfl⟩
      · omega
      · rcases get3 _ _ _ _ h3 with ⟨c1, c2⟩ | ⟨_, rfl⟩
        · omega
        · exact hp
  · rw [List.nodup_append]
    refine ⟨h.nodup, by simp, fun y hy z hz => ?_⟩
    simp at hz
    subst hz
    exact fun e => hb (e ▸ hy)
  · rcases get3 _ _ _ _ h1 with ⟨a1, a2⟩ | ⟨a1, rfl⟩
    · rcases get3 _ _ _ _ h2 with ⟨b1, b2⟩ | ⟨b1, rfl⟩
      · exact h.apart p q _ _ g a2 b2 e1 e2
      · rw [hx] at e2; cases e2
    · rw [hx] at e1; cases e1
/-- one of them is stepped -/
theorem PendsH.step {q b bw bk : Nat} {l h9 d : Int} {ws : List Int} {o : OpH} {x : Value × ShM} {e : Ending} (h : PendsH w lo bh m os bs xs) (hlo : lo ≤ w.heap.size) (hm : m ≠ 1) (hM : HistM w bh bk bw l h9 d m ws) (ho : os[q]? = some o) (hb : bs[q]? = some b) (hx : xs[q]? = some x) (hs : SteppedH w b bh bk bw l h9 d m ws o x.2 e w1) :
    ∃ x', PendsH w1 lo bh m (os.set q (stepH m ws o)) bs (xs.set q x') ∧ (∀ g, x'.2.bv.ownBlock = some g → x.2.bv.ownBlock = some g ∨ w.heap.size ≤ g) ∧ HistM w1 bh bk bw l h9 d m (stepW m ws o) ∧ ∃ T, (∀ r, r ∈ T → x.2.bv.ownBlock = some r) ∧ Part (b :: bw :: T) w w1 := by
  obtain ⟨T, hT, _, nx', s', hr, ⟨hn, hfr⟩, hh, hP⟩ := hs
  have hp := h.all q o b x ho hb hx
  have hrow := hp.row
  have hwr := hM.words.row
  have hTr : ∀ r, r ∈ T → ∃ l', Row w r 38 l' ∧ l'.length = m := fun r hr => (hp.bu r (hT r hr)).2
  refine ⟨(nx', s'), ⟨by rw [List.length_set]; exact h.len, by rw [List.length_set, List.length_set]; exact h.lenx, fun p o' b' y h1 h2 h3 => ?_, h.nodup, fun p r y z g h1 h2 e1 e2 => ?_⟩, hfr, hh, T, hT, hP⟩
  · by_cases e : p = q
    · subst e
      rw [hb] at h2
      cases h2
      rw [List.getElem?_set_self (lt_of_get ho)] at h1
      rw [List.getElem?_set_self (lt_of_get hx)] at h3
      cases h1
      cases h3
      refine ⟨hr, hn, hp.ok.step, hp.low, fun g hg => ⟨?_, hn.bucket g hg⟩⟩
      rcases hfr g hg with e2 | e2
      · exact (hp.bu g e2).1
      · omega
    · rw [List.getElem?_set_ne (fun e' => e e'.symm)] at h1 h3
      have hp' := h.all p o' b' y h1 h2 h3
      have hne : b' ≠ b := fun e' => by
        subst e'
        exact e ((List.getElem?_inj (lt_of_get h2) h.nodup).1 (h2.trans hb.symm))
      refine hp'.keep (.of_part hP) (fun r hr => ?_) (fun hm' => ?_) (fun g hg hm' => ?_)
      · simp only [List.mem_cons] at hr
        rcases hr with rfl | rfl | hr
        · exact ⟨_, _, hrow, .inl (by simp [boxB])⟩
        · exact ⟨_, _, hwr, .inl (by simp [boxB])⟩
        · obtain ⟨l', a1, a2⟩ := hTr r hr
          exact ⟨_, _, a1, .inl (by simp [boxB, a2, hm])⟩
      · simp only [List.mem_cons] at hm'
        rcases hm' with e' | e' | e'
        · exact hne e'
        · exact hp'.row.ne hwr (by decide) e'
        · obtain ⟨l', a1, _⟩ := hTr _ e'
          exact hp'.row.ne a1 (by decide) rfl
      · simp only [List.mem_cons] at hm'
        obtain ⟨_, l', a1, _⟩ := hp'.bu g hg
        rcases hm' with e' | e' | e'
        · exact a1.ne hrow (by decide) e'
        · exact a1.ne hwr (by decide) e'
        · exact e (h.apart p q _ _ g h3 hx hg (hT g e'))
  · have nw : ∀ (p : Nat) (y : Value × ShM), p ≠ q → xs[p]? = some y → y.2.bv.ownBlock = some g → s'.bv.ownBlock ≠ some g := fun p y hne hy e1 e2 => by
      rcases hfr g e2 with e3 | e3
      · exact hne (h.apart p q _ _ g hy hx e1 e3)
      · have hlp : p < bs.length := by rw [h.len, ← h.lenx]; exact lt_of_get hy
        obtain ⟨_, _, _, _, _, a3, a4⟩ := h.get hlp
        rw [hy] at a3
        cases a3
        obtain ⟨_, l', a1, _⟩ := a4.bu g e1
        have := a1.lt
        omega
    by_cases hpq : p = q
    · by_cases hrq : r = q
      · omega
      · subst hpq
        rw [List.getElem?_set_self (lt_of_get hx)] at h1
        cases h1
        rw [List.getElem?_set_ne (fun e' => hrq e'.symm)] at h2
        exact absurd e1 (nw r z hrq h2 e2)
    · rw [List.getElem?_set_ne (fun e' => hpq e'.symm)] at h1
      by_cases hrq : r = q
      · subst hrq
        rw [List.getElem?_set_self (lt_of_get hx)] at h2
        cases h2
        exact absurd e2 (nw p y hpq h1 e1)
      · rw [List.getElem?_set_ne (fun e' => hrq e'.symm)] at h2
        exact h.apart p r _ _ g h1 h2 e1 e2
end
theorem infoPH : (Try.prog.info? 34).map (fun i => (i.zero, i.size, i.bytes)) = some (some (.pointer none), 1, 8) := by kernel_rfl
abbrev ownL (v : Value) : List Nat := v.ownBlock.toList
theorem own_rowK {w : World} {base n c g size : Nat} {e : TypeId} {xs : List Value} (h : w.ownsRow base e size (.slice (some ⟨g, 0, none⟩) n c) n xs) : ∃ l, Row w g e l := by
  rcases h.2 with ⟨hv, _⟩ | ⟨g', _, cur, hv, _, hh, _⟩
  · cases hv
  · cases hv
    exact ⟨cur.toList, hh⟩
theorem HistM.grown {w w1 : World} {bh bk bw m base n size : Nat} {e : TypeId} {v : Value} {xs : List Value} {l h d : Int} {ws : List Int} (b : HistM w bh bk bw l h d m ws) (hv : w.ownsRow base e size v n xs) (hg : w.grownBy w1 v.ownBlock) (n1 : e ≠ 82) (n2 : e ≠ 101) (n3 : e ≠ 107) : HistM w1 bh bk bw l h d m ws :=
  ⟨b.head.grown hg (own_not_in hv b.head n1), ⟨b.words.head.grown hg (own_not_in hv b.words.head n2), b.words.row.grown hg (own_not_in hv b.words.row n3), b.words.few, b.words.ok⟩, b.len, b.few⟩
/-- while the list grows -/
structure BegK (W : World) (bh bk bw : Nat) (l h d : Int) (m : Nat) (ws : List Int) (os : List OpH) (bs : List Nat) (xs : List (Value × ShM)) (vp : Value) (wr : World) : Prop where
  hist : HistM wr bh bk bw l h d m ws
  lo : W.heap.size ≤ bw
  low : Below W.heap.size W wr
  ps : wr.ownsRow W.heap.size 34 1 vp bs.length (ptrs bs)
  keep : ∀ w', Kept (ownL vp) wr w' → PendsH w' W.heap.size bh m os bs xs
  nz : bs = [] → vp.ownBlock = none
theorem Kept.refl (S : List Nat) (w : World) : Kept S w w := fun _ _ _ h _ _ _ => h
theorem Kept.after {S : List Nat} {w w1 w2 : World} (h : Kept S w1 w2) (hb : Below w.heap.size w w1) : Kept S w w2 := fun b t l hr h1 h2 h3 => h b t l (hr.below hb hr.lt) h1 h2 h3
theorem Kept.after_grown {S : List Nat} {w w1 w2 : World} {base n size : Nat} {e : TypeId} {v : Value} {xs : List Value} (h : Kept S w1 w2) (hv : w.ownsRow base e size v n xs) (hg : w.grownBy w1 v.ownBlock) (he : e = 46 ∨ e = 40) : Kept S w w2 := fun b t l hr h1 h2 h3 =>
  h b t l (hr.grown hg (own_not_in hv hr (fun q => he.elim (fun a => h1 (q.symm.trans a)) (fun a => h2 (q.symm.trans a))))) h1 h2 h3
section
variable {W wr w1 w5 w6 w7 : World} {bh bk bw m : Nat} {l h d : Int} {ws : List Int} {os : List OpH} {bs : List Nat} {xs : List (Value × ShM)} {vp : Value}
theorem BegK.pends (hM : BegK W bh bk bw l h d m ws os bs xs vp wr) : PendsH wr W.heap.size bh m os bs xs := hM.keep _ (Kept.refl _ _)
theorem BegK.nil {w0 : World} (hh : HistM w1 bh bk bw l h d m ws) (hb0 : Below W.heap.size W w0) (hlo : w0.heap.size ≤ bw) (hb : Below w0.heap.size w0 w1) : BegK W bh bk bw l h d m ws [] [] [] (.slice none 0 0) w1 :=
  ⟨hh, Nat.le_trans hb0.size hlo, hb0.trans (hb.mono hb0.size), ⟨rfl, .inl ⟨rfl, rfl⟩⟩, fun _ _ => PendsH.nil .., fun _ => rfl⟩
theorem BegK.on (hM : BegK W bh bk bw l h d m ws os bs xs vp wr) (hb : Below wr.heap.size wr w1) : BegK W bh bk bw l h d m ws os bs xs vp w1 :=
  ⟨hM.hist.on hb, hM.lo, hM.low.trans (hb.mono hM.low.size), own_part hM.ps (Part.of_below hb (Nat.le_refl _) []) (by simp), fun w' hk => hM.keep w' (hk.after hb), hM.nz⟩
theorem BegK.alloc (hM : BegK W bh bk bw l h d m ws os bs xs vp wr) (o : Obj) : BegK W bh bk bw l h d m ws os bs xs vp (wr.alloc o) := hM.on ((Below.refl _ _).alloc (Nat.le_refl _) o)
/-- another list of the law's grows -/
theorem BegK.grown {n size : Nat} {e : TypeId} {v : Value} {zs : List Value} (hM : BegK W bh bk bw l h d m ws os bs xs vp wr) (hv : wr.ownsRow W.heap.size e size v n zs) (hg : wr.grownBy w1 v.ownBlock) (he : e = 46 ∨ e = 40) : BegK W bh bk bw l h d m ws os bs xs vp w1 :=
  ⟨hM.hist.grown hv hg (by rcases he with rfl | rfl <;> decide) (by rcases he with rfl | rfl <;> decide) (by rcases he with rfl | rfl <;> decide), hM.lo, hM.low.grown hg hM.low.size (own_from hv), hM.ps.kept hg (own_apart hM.ps hv (by rcases he with rfl | rfl <;> decide)), fun w' hk => hM.keep w' (hk.after_grown hv hg he), hM.nz⟩
/-- one has begun, and is not yet in the list -/
structure AddK (W : World) (bh bk bw : Nat) (l h d : Int) (m : Nat) (ws : List Int) (os : List OpH) (bs : List Nat) (xs : List (Value × ShM)) (vp : Value) (o : OpH) (bp : Nat) (x : Value × ShM) (wr : World) : Prop where
  beg : BegK W bh bk bw l h d m ws os bs xs vp wr
  one : ∀ w', Kept (ownL vp) wr w' → PendH w' W.heap.size bh m o bp x
  new : bp ∉ bs
  nobu : x.2.bv.ownBlock = none
theorem BegK.add {o : OpH} {bp : Nat} {nx : Value} (hM : BegK W bh bk bw l h d m ws os bs xs vp wr) (hb : Below wr.heap.size wr w5) (hr : Row w5 bp 85 (pendH bh nx zeroS)) (hn : NextH bp m o w5 nx zeroS) (hge : wr.heap.size ≤ bp) (ho : OkH m o) : AddK W bh bk bw l h d m ws os bs xs vp o bp (nx, zeroS) w5 := by
  have h5 := hM.on hb
  have hlt : ∀ b, b ∈ bs → b < wr.heap.size := fun b hb' => (hM.pends.lt b hb').1
  have hsz := hM.low.size
  refine ⟨h5, fun w' hk => ?_, fun hm => by have := hlt bp hm; omega, rfl⟩
  have hP5 : PendH w5 W.heap.size bh m o bp (nx, zeroS) := ⟨hr, hn, ho, by omega, fun q hq => by cases hq⟩
  refine hP5.keep hk (fun q hq => ?_) (fun hq => ?_) (fun q hq => by cases hq)
  · have hq' : vp.ownBlock = some q := by simpa using hq
    rcases List.eq_nil_or_concat bs with rfl | ⟨bs0, bz, e⟩
    · rw [hM.nz rfl] at hq'; cases hq'
    · have hlen : 0 < bs.length := by rw [e]; simp
      obtain ⟨g, c, hv, _, _⟩ := own_some h5.ps hlen
      have hps := h5.ps
      rw [hv] at hq' hps
      cases hq'
      obtain ⟨l', hr'⟩ := own_rowK hps
      refine ⟨_, _, hr', .inr ⟨rfl, fun el => ?_⟩⟩
      have hb0 : bs[0]? = some bs[0] := List.getElem?_eq_getElem hlen
      have h1 := own_cell hps (ptrs_get hb0)
      have h2 := hr'.cell 0
      rw [h1, el] at h2
      simp at h2
      have := hlt bs[0] (List.getElem_mem hlen)
      omega
  · have hq' : vp.ownBlock = some bp := by simpa using hq
    exact own_off h5.ps hr (by decide) bp hq' rfl
theorem AddK.on {o : OpH} {bp : Nat} {x : Value × ShM} (hM : AddK W bh bk bw l h d m ws os bs xs vp o bp x wr) (hb : Below wr.heap.size wr w1) : AddK W bh bk bw l h d m ws os bs xs vp o bp x w1 := ⟨hM.beg.on hb, fun w' hk => hM.one w' (hk.after hb), hM.new, hM.nobu⟩
theorem AddK.alloc {o : OpH} {bp : Nat} {x : Value × ShM} (hM : AddK W bh bk bw l h d m ws os bs xs vp o bp x wr) (ob : Obj) : AddK W bh bk bw l h d m ws os bs xs vp o bp x (wr.alloc ob) := hM.on ((Below.refl _ _).alloc (Nat.le_refl _) ob)
theorem AddK.grown {o : OpH} {bp n size : Nat} {x : Value × ShM} {e : TypeId} {v : Value} {zs : List Value} (hM : AddK W bh bk bw l h d m ws os bs xs vp o bp x wr) (hv : wr.ownsRow W.heap.size e size v n zs) (hg : wr.grownBy w1 v.ownBlock) (he : e = 46 ∨ e = 40) : AddK W bh bk bw l h d m ws os bs xs vp o bp x w1 :=
  ⟨hM.beg.grown hv hg he, fun w' hk => hM.one w' (hk.after_grown hv hg he), hM.new, hM.nobu⟩
/-- its address is put into the list -/
theorem AddK.done {o : OpH} {bp g c : Nat} {x : Value × ShM} (hM : AddK W bh bk bw l h d m ws os bs xs vp o bp x wr) (h7 : w7.ownsRow W.heap.size 34 1 (.slice (some ⟨g, 0, none⟩) (bs.length + 1) c) (bs.length + 1) (ptrs bs ++ [.pointer (some ⟨bp, 0, none⟩)])) (hg : wr.grownBy w7 vp.ownBlock) (hat : vp.ownBlock = some g ∨ g = wr.heap.size) :
    BegK W bh bk bw l h d m ws (os ++ [o]) (bs ++ [bp]) (xs ++ [x]) (.slice (some ⟨g, 0, none⟩) (bs.length + 1) c) w7 := by
  have hps := hM.beg.ps
  have hk : ∀ w', Kept (ownL (.slice (some ⟨g, 0, none⟩) (bs.length + 1) c)) w7 w' → Kept (ownL vp) wr w' := fun w' hk b t l' hr h1 h2 h3 => by
    refine hk b t l' (hr.grown hg (fun e => h3 (by simp [← e]))) h1 h2 (fun hm => ?_)
    have e : g = b := by simpa [Value.ownBlock] using hm
    subst e
    rcases hat with e | e
    · exact h3 (by simp [e])
    · have := hr.lt
      omega
  refine ⟨hM.beg.hist.grown hps hg (by decide) (by decide) (by decide), hM.beg.lo, hM.beg.low.grown hg hM.beg.low.size (own_from hps), ?_, fun w' hk' => (hM.beg.keep w' (hk w' hk')).snoc (hM.one w' (hk w' hk')) hM.new hM.nobu, fun e => by simp at e⟩
  have e := ptrs_snoc bs bp
  rw [List.length_append, List.length_singleton, ← e]
  exact h7
end
/-- the operations, all begun -/
structure ManyH (W : World) (bh bk bw : Nat) (l h d : Int) (m : Nat) (ws : List Int) (os : List OpH) (bs : List Nat) (xs : List (Value × ShM)) (vp : Value) (wr : World) : Prop where
  hist : HistM wr bh bk bw l h d m ws
  lo : W.heap.size ≤ bw
  low : Below W.heap.size W wr
  ps : wr.ownsRow W.heap.size 34 1 vp bs.length (ptrs bs)
  pends : PendsH wr W.heap.size bh m os bs xs
section
variable {W wr w1 : World} {bh bk bw m q b : Nat} {l h d : Int} {ws : List Int} {os : List OpH} {bs : List Nat} {xs : List (Value × ShM)} {vp : Value}
theorem BegK.many (hM : BegK W bh bk bw l h d m ws os bs xs vp wr) : ManyH W bh bk bw l h d m ws os bs xs vp wr := ⟨hM.hist, hM.lo, hM.low, hM.ps, hM.pends⟩
theorem ManyH.on (hM : ManyH W bh bk bw l h d m ws os bs xs vp wr) (hb : Below wr.heap.size wr w1) : ManyH W bh bk bw l h d m ws os bs xs vp w1 :=
  ⟨hM.hist.on hb, hM.lo, hM.low.trans (hb.mono hM.low.size), own_part hM.ps (Part.of_below hb (Nat.le_refl _) []) (by simp), hM.pends.on hb⟩
theorem ManyH.alloc (hM : ManyH W bh bk bw l h d m ws os bs xs vp wr) (o : Obj) : ManyH W bh bk bw l h d m ws os bs xs vp (wr.alloc o) := hM.on ((Below.refl _ _).alloc (Nat.le_refl _) o)
theorem ManyH.drew (hM : ManyH W bh bk bw l h d m ws os bs xs vp wr) : ManyH W bh bk bw l h d m ws os bs xs vp wr.drew := hM.on (Below.refl _ _).drew
/-- behind what turns a block of another type -/
theorem ManyH.off {g : Nat} {t : TypeId} {l' : List Value} (hM : ManyH W bh bk bw l h d m ws os bs xs vp wr) (hg : Row wr g t l') (hlo : W.heap.size ≤ g) (hP : Part [g] wr w1) (n1 : 82 ≠ t) (n2 : 101 ≠ t) (n3 : 107 ≠ t) (n4 : 34 ≠ t) (n5 : 85 ≠ t) (n6 : 38 ≠ t) (n7 : ∀ l', boxB t l' = false) : ManyH W bh bk bw l h d m ws os bs xs vp w1 := by
  have b := hM.hist
  exact ⟨⟨b.head.part hP (by simpa using b.head.ne hg n1), b.words.part hP (by simpa using b.words.head.ne hg n2) (by simpa using b.words.row.ne hg n3), b.len, b.few⟩, hM.lo, hM.low.trans (hP.below hM.low.size (by simpa using hlo)), own_part hM.ps hP (fun q hq => by simpa using own_off hM.ps hg n4 q hq), hM.pends.off hg hP n5 n6 n7⟩
/-- one of them is stepped -/
theorem ManyH.step {o : OpH} {x : Value × ShM} {e : Ending} (hM : ManyH W bh bk bw l h d m ws os bs xs vp wr) (hm : m ≠ 1) (ho : os[q]? = some o) (hb : bs[q]? = some b) (hx : xs[q]? = some x) (hs : SteppedH wr b bh bk bw l h d m ws o x.2 e w1) :
    ∃ x', ManyH W bh bk bw l h d m (stepW m ws o) (os.set q (stepH m ws o)) bs (xs.set q x') vp w1 ∧ (∀ g, x'.2.bv.ownBlock = some g → x.2.bv.ownBlock = some g ∨ wr.heap.size ≤ g) ∧ ∃ T, (∀ r, r ∈ T → x.2.bv.ownBlock = some r) ∧ Part (b :: bw :: T) wr w1 := by
  obtain ⟨x', h1, h2, h3, T, h4, h5⟩ := hM.pends.step hM.low.size hm hM.hist ho hb hx hs
  have hp := hM.pends.all q o b x ho hb hx
  refine ⟨x', ⟨h3, hM.lo, hM.low.trans (h5.below hM.low.size (fun k hk => ?_)), own_part hM.ps h5 (fun r hr hk => ?_), h1⟩, h2, T, h4, h5⟩
  · simp only [List.mem_cons] at hk
    rcases hk with rfl | rfl | hk
    · exact hp.low
    · exact hM.lo
    · exact (hp.bu k (h4 k hk)).1
  · simp only [List.mem_cons] at hk
    rcases hk with rfl | rfl | hk
    · exact own_off hM.ps hp.row (by decide) _ hr rfl
    · exact own_off hM.ps hM.hist.words.row (by decide) _ hr rfl
    · obtain ⟨_, l', a1, _⟩ := hp.bu r (h4 r hk)
      exact own_off hM.ps a1 (by decide) _ hr rfl
theorem ManyH.get (hM : ManyH W bh bk bw l h d m ws os bs xs vp wr) (hq : q < bs.length) : ∃ o b x g c, os[q]? = some o ∧ bs[q]? = some b ∧ xs[q]? = some x ∧ vp = .slice (some ⟨g, 0, none⟩) bs.length c ∧ wr.cell? ⟨g, q, none⟩ = some (.pointer (some ⟨b, 0, none⟩)) ∧ PendH wr W.heap.size bh m o b x := by
  obtain ⟨o, b, x, h1, h2, h3, h4⟩ := hM.pends.get hq
  obtain ⟨g, c, hv, _, _⟩ := own_some hM.ps (by omega)
  have hps := hM.ps
  rw [hv] at hps
  exact ⟨o, b, x, g, c, h1, h2, h3, hv, own_cell hps (ptrs_get h2), h4⟩
end
/-- the document's record of an operation -/
def undU (o : OpH) (sw : Int) (Ab : Option Addr) (cb : Nat) : Array Value := #[.int .u8 o.k, .int .i64 o.v, .int .u64 o.n, .int .i64 (o.at_ : Int), .bool o.ld, .int .u64 sw, .bool o.en, .int .u64 o.c, .int .u64 o.su, .int .i64 o.le, .int .i64 o.gr, .slice Ab o.bu.length cb]
end Go.Proofs.Ytiifhkfkcljoiaa
