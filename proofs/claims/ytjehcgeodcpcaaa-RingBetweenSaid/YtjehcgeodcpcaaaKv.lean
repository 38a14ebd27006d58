/- OPERATIONS OF A RING AND THE DOCUMENT'S OWN, SIDE BY SIDE. -/
import Derived.Test.YtjehcgeodcpcaaaKu
import Derived.Test.YtjehcgeodcpcaaaKk
import Derived.Test.YtjehcgeodcpcaaaEx
namespace Go.Proofs.Ytjehcgeodcpcaaa
open Go Go.RowKit

theorem wpList_append_any {P : Program} {w : World} {ops : Array Oper} {rest : List Oper} {o : Oper} {a : Act} {Q : Exit → Act → World → Prop} (hgd : o.guard = none) (s x : Operand) (t : TypeId)
    (ho : o.op = .call { callee := .builtin .append, args := #[s, x], argTypes := #[t, t] })
    (base : Nat) (e : TypeId) (i : TypeInfo) (z : Value) (size bytes : Nat) (ht : P.underlying t = some (.slice e)) (hi : P.info? e = some i) (hz : i.zero = some z)
    (hsize : i.size = size) (hby : i.bytes = bytes) (hzs : z.cells.size = size) (hsz : 0 < size)
    (v : Value) (n : Nat) (xs : List Value) (hs : a.eval s = v) (hown : w.ownsRow base e size v n xs)
    (ao : Option Addr) (m c : Nat) (news : List Value) (hx : a.eval x = .slice ao m c) (hl : news.length = m * size) (hnone : ao = none → m = 0 ∧ c = 0) (hnews : ∀ ad, ao = some ad → ∀ j u, news[j]? = some u → w.cell? (ad.add j) = some u) (h1 : ∀ u ∈ news, u.oneCell' = true)
    (h63 : n + m ≤ maxLen) (hbytes : (n + m) * bytes ≤ 140737488355328) (hbase : base ≤ w.heap.size)
    (h : ∀ v' w', w'.ownsRow base e size v' (n + m) (xs ++ news) → w.grownBy w' v.ownBlock → wpList P ops Q rest (a.put o.dst v') w') : wpList P ops Q (o :: rest) a w := by
  cases ao with
  | some ad => exact wpList_append_own w hgd s x t ho base e i z size bytes ht hi hz hsize hby hzs hsz v n xs hs hown ad m c news hx hl (hnews ad rfl) h1 h63 hbytes hbase (fun v' w' a b _ => h v' w' a b)
  | none =>
    obtain ⟨rfl, rfl⟩ := hnone rfl
    have hnn : news = [] := List.eq_nil_of_length_eq_zero (by simpa using hl)
    subst hnn
    subst hs
    refine wpList_plain hgd fun K hK' => ?_
    have hrun := run_append_owned_none (P := P) w base t o.type e i size ht hi _ n xs hown
    unfold Oper.wp
    simp [execOp, ho, resolve, invoke, builtin, hx, hrun, Result.andThen]
    exact hK' _ _ (by simpa using h _ w (by simpa using hown) (World.grownBy.refl _ _))


def i64s (l : List Int) : List Value := l.map (Value.int .i64)
theorem i64s_get {l : List Int} {j : Nat} {x : Int} (h : l[j]? = some x) : (i64s l)[j]? = some (.int .i64 x) := by simp [i64s, h]
/-- the document's records of operations -/
def unNs (xs : List DN) : List Value := xs.flatMap DN.cells
theorem dn_length (x : DN) : x.cells.length = 10 := rfl
theorem unNs_snoc (xs : List DN) (x : DN) : unNs xs ++ x.cells = unNs (xs ++ [x]) := by simp [unNs]
theorem unNs_get {xs : List DN} : ∀ {q : Nat} {x : DN}, xs[q]? = some x → ∀ j, j < 10 → (unNs xs)[q * 10 + j]? = x.cells[j]? := by
  induction xs with
  | nil => intro q x h; simp at h
  | cons a xs ih =>
    intro q x h j hj
    have e : unNs (a :: xs) = a.cells ++ unNs xs := rfl
    rw [e]
    cases q with
    | zero => simp at h; subst h; rw [List.getElem?_append_left (by rw [dn_length]; omega)]; simp
    | succ q =>
      simp at h
      rw [List.getElem?_append_right (by rw [dn_length]; omega), dn_length]
      have e1 : (q + 1) * 10 + j - 10 = q * 10 + j := by omega
      rw [e1]
      exact ih h j hj
theorem un_app_set {a l : List Value} {m : Nat} {v : Value} (ha : a.length = 10) : (a ++ l).set (m + 10) v = a ++ l.set m v := by
  rw [List.set_append, if_neg (by omega)]
  congr 2
  omega
theorem unNs_set {xs : List DN} {x : DN} : ∀ {q : Nat} {y : DN}, xs[q]? = some y →
    ((((((((((unNs xs).set (q * 10) (.int .u8 x.k)).set (q * 10 + 1) (.int .i64 x.t)).set (q * 10 + 2) (.int .u64 x.n)).set (q * 10 + 3) (.bool x.bg)).set (q * 10 + 4) (.bool x.ld)).set (q * 10 + 5) (.int .u64 x.saw)).set (q * 10 + 6) (.int .i64 x.nx)).set (q * 10 + 7) (.bool x.en)).set (q * 10 + 8) (.int .u64 x.sm)).set (q * 10 + 9) (.int .i64 x.why) = unNs (xs.set q x) := by
  induction xs with
  | nil => intro q y h; simp at h
  | cons a xs ih =>
    intro q y h
    have e : unNs (a :: xs) = a.cells ++ unNs xs := rfl
    rw [e]
    cases q with
    | zero => rfl
    | succ q =>
      simp at h
      have e0 : (q + 1) * 10 = q * 10 + 10 := by omega
      have e1 : (q + 1) * 10 + 1 = q * 10 + 1 + 10 := by omega
      have e2 : (q + 1) * 10 + 2 = q * 10 + 2 + 10 := by omega
      have e3 : (q + 1) * 10 + 3 = q * 10 + 3 + 10 := by omega
      have e4 : (q + 1) * 10 + 4 = q * 10 + 4 + 10 := by omega
      have e5 : (q + 1) * 10 + 5 = q * 10 + 5 + 10 := by omega
      have e6 : (q + 1) * 10 + 6 = q * 10 + 6 + 10 := by omega
      have e7 : (q + 1) * 10 + 7 = q * 10 + 7 + 10 := by omega
      have e8 : (q + 1) * 10 + 8 = q * 10 + 8 + 10 := by omega
      have e9 : (q + 1) * 10 + 9 = q * 10 + 9 + 10 := by omega
      rw [e9, e8, e7, e6, e5, e4, e3, e2, e1, e0, un_app_set (dn_length a), un_app_set (dn_length a), un_app_set (dn_length a), un_app_set (dn_length a), un_app_set (dn_length a), un_app_set (dn_length a), un_app_set (dn_length a), un_app_set (dn_length a), un_app_set (dn_length a), un_app_set (dn_length a)]
      rw [ih h]
      rfl
theorem dn_one (x : DN) : ∀ u ∈ x.cells, u.oneCell' = true := by
  intro u hu
  simp [DN.cells, undN] at hu
  rcases hu with rfl | rfl | rfl | rfl | rfl | rfl | rfl | rfl | rfl | rfl <;> rfl
theorem infoUN : (Try.prog.info? 45).map (fun i => (i.zero, i.size, i.bytes)) = some (some (.agg undNO.toArray), 10, 72) := by kernel_rfl
theorem infoPN : (Try.prog.info? 40).map (fun i => (i.zero, i.size, i.bytes)) = some (some (.pointer none), 1, 8) := by kernel_rfl
theorem infoIN : (Try.prog.info? 3).map (fun i => (i.zero, i.size, i.bytes)) = some (some (.int .i64 0), 1, 8) := by kernel_rfl
/-- ten stores -/
def undSet (w : World) (g i : Nat) (x : DN) : World := ((((((((((w).setCell ⟨g, i, none⟩ (.int .u8 x.k)).setCell ⟨g, i + 1, none⟩ (.int .i64 x.t)).setCell ⟨g, i + 2, none⟩ (.int .u64 x.n)).setCell ⟨g, i + 3, none⟩ (.bool x.bg)).setCell ⟨g, i + 4, none⟩ (.bool x.ld)).setCell ⟨g, i + 5, none⟩ (.int .u64 x.saw)).setCell ⟨g, i + 6, none⟩ (.int .i64 x.nx)).setCell ⟨g, i + 7, none⟩ (.bool x.en)).setCell ⟨g, i + 8, none⟩ (.int .u64 x.sm)).setCell ⟨g, i + 9, none⟩ (.int .i64 x.why)
theorem undSet_part (w : World) (g i : Nat) (x : DN) : Part [g] w (undSet w g i x) := by
  unfold undSet
  repeat (first | (with_reducible exact Part.refl _ _) | refine Part.set ?_ (by simp) _)
section
variable {w : World} {base g n c q : Nat} {xs : List DN} {x y : DN}
theorem un_cells (h : w.ownsRow base 45 10 (.slice (some ⟨g, 0, none⟩) n c) n (unNs xs)) (hp : xs[q]? = some x) :
    w.cell? ⟨g, q * 10, none⟩ = some (.int .u8 x.k) ∧ w.cell? ⟨g, q * 10 + 1, none⟩ = some (.int .i64 x.t) ∧ w.cell? ⟨g, q * 10 + 2, none⟩ = some (.int .u64 x.n) ∧ w.cell? ⟨g, q * 10 + 3, none⟩ = some (.bool x.bg) ∧ w.cell? ⟨g, q * 10 + 4, none⟩ = some (.bool x.ld) ∧ w.cell? ⟨g, q * 10 + 5, none⟩ = some (.int .u64 x.saw) ∧ w.cell? ⟨g, q * 10 + 6, none⟩ = some (.int .i64 x.nx) ∧ w.cell? ⟨g, q * 10 + 7, none⟩ = some (.bool x.en) ∧ w.cell? ⟨g, q * 10 + 8, none⟩ = some (.int .u64 x.sm) ∧ w.cell? ⟨g, q * 10 + 9, none⟩ = some (.int .i64 x.why) :=
  ⟨by simpa using own_cell h ((unNs_get hp 0 (by omega)).trans rfl), own_cell h ((unNs_get hp 1 (by omega)).trans rfl), own_cell h ((unNs_get hp 2 (by omega)).trans rfl), own_cell h ((unNs_get hp 3 (by omega)).trans rfl), own_cell h ((unNs_get hp 4 (by omega)).trans rfl), own_cell h ((unNs_get hp 5 (by omega)).trans rfl), own_cell h ((unNs_get hp 6 (by omega)).trans rfl), own_cell h ((unNs_get hp 7 (by omega)).trans rfl), own_cell h ((unNs_get hp 8 (by omega)).trans rfl), own_cell h ((unNs_get hp 9 (by omega)).trans rfl)⟩
theorem un_stored (h : w.ownsRow base 45 10 (.slice (some ⟨g, 0, none⟩) n c) n (unNs xs)) (hp : xs[q]? = some y) :
    (undSet w g (q * 10) x).ownsRow base 45 10 (.slice (some ⟨g, 0, none⟩) n c) n (unNs (xs.set q x)) := by
  have h0 := (h.stored (q * 10) (.int .u8 x.k)).1
  have h1 := (h0.stored (q * 10 + 1) (.int .i64 x.t)).1
  have h2 := (h1.stored (q * 10 + 2) (.int .u64 x.n)).1
  have h3 := (h2.stored (q * 10 + 3) (.bool x.bg)).1
  have h4 := (h3.stored (q * 10 + 4) (.bool x.ld)).1
  have h5 := (h4.stored (q * 10 + 5) (.int .u64 x.saw)).1
  have h6 := (h5.stored (q * 10 + 6) (.int .i64 x.nx)).1
  have h7 := (h6.stored (q * 10 + 7) (.bool x.en)).1
  have h8 := (h7.stored (q * 10 + 8) (.int .u64 x.sm)).1
  have h9 := (h8.stored (q * 10 + 9) (.int .i64 x.why)).1
  rw [unNs_set hp] at h9
  exact h9
end
theorem get_snoc {α : Type} {l : List α} {a x : α} {q : Nat} (h : (l ++ [a])[q]? = some x) : (q < l.length ∧ l[q]? = some x) ∨ (q = l.length ∧ x = a) := by
  by_cases hq : q < l.length
  · rw [List.getElem?_append_left hq] at h; exact .inl ⟨hq, h⟩
  · rw [List.getElem?_append_right (by omega)] at h
    have h0 : q - l.length = 0 := by have := lt_of_get h; simp at this; omega
    rw [h0] at h
    simp at h
    exact .inr ⟨by omega, h.symm⟩
/-- operations under way, each in a block of its own -/
structure PendsN (w : World) (lo br : Nat) (os : List OpN) (bs : List Nat) : Prop where
  len : bs.length = os.length
  row : ∀ (q : Nat) (o : OpN) (b : Nat), os[q]? = some o → bs[q]? = some b → Row w b 77 (opNL br o)
  nodup : bs.Nodup
  lo : ∀ b, b ∈ bs → lo ≤ b
  ok : ∀ o, o ∈ os → OkN o
theorem PendsN.at_ {w : World} {lo br : Nat} {os : List OpN} {bs : List Nat} (h : PendsN w lo br os bs) {b : Nat} (hb : b ∈ bs) : ∃ l, Row w b 77 l := by
  obtain ⟨q, hq⟩ := List.getElem?_of_mem hb
  exact ⟨_, h.row q _ b (List.getElem?_eq_getElem (by rw [← h.len]; exact lt_of_get hq)) hq⟩
theorem PendsN.part {w w' : World} {lo br : Nat} {os : List OpN} {bs S : List Nat} (h : PendsN w lo br os bs) (hp : Part S w w') (hS : ∀ b, b ∈ bs → b ∉ S) : PendsN w' lo br os bs :=
  ⟨h.len, fun q o b ho hb => (h.row q o b ho hb).part hp (hS b (List.mem_of_getElem? hb)), h.nodup, h.lo, h.ok⟩
theorem PendsN.snoc {w w' : World} {lo br : Nat} {os : List OpN} {bs : List Nat} {o : OpN} {b : Nat} (h : PendsN w lo br os bs) (hb : Below w.heap.size w w') (hr : Row w' b 77 (opNL br o)) (hn : w.heap.size ≤ b) (hlo : lo ≤ w.heap.size) (ho : OkN o) :
    PendsN w' lo br (os ++ [o]) (bs ++ [b]) := by
  have hlt : ∀ x ∈ bs, x < w.heap.size := fun x hx => by obtain ⟨l, hl⟩ := h.at_ hx; exact hl.lt
  have h' := h.part (Part.of_below hb (Nat.le_refl _) []) (by simp)
  refine ⟨by simp [h.len], fun q o' b' ho' hb' => ?_, ?_, fun x hx => ?_, fun x hx => ?_⟩
  · rcases get_snoc ho' with ⟨_, ho1⟩ | ⟨e1, rfl⟩
    · rcases get_snoc hb' with ⟨_, hb1⟩ | ⟨e2, _⟩
      · exact h'.row q o' b' ho1 hb1
      · exfalso; have := lt_of_get ho1; have := h.len; omega
    · rcases get_snoc hb' with ⟨h2, _⟩ | ⟨_, rfl⟩
      · exfalso; have := h.len; omega
      · exact hr
  · rw [List.nodup_append]
    refine ⟨h.nodup, by simp, fun x hx y hy => ?_⟩
    simp at hy
    subst hy
    have := hlt x hx
    omega
  · rcases List.mem_append.1 hx with hx | hx
    · exact h.lo x hx
    · simp at hx; subst hx; omega
  · rcases List.mem_append.1 hx with hx | hx
    · exact h.ok x hx
    · simp at hx; subst hx; exact ho
theorem PendsN.step {w w' : World} {lo br bw q b : Nat} {os : List OpN} {bs : List Nat} {o' : OpN} (h : PendsN w lo br os bs) (hb : bs[q]? = some b) (hr : Row w' b 77 (opNL br o')) (hP : Part [bw, b] w w') (hbw : ∀ x ∈ bs, x ≠ bw) (ho : OkN o') : PendsN w' lo br (os.set q o') bs := by
  refine ⟨by rw [List.length_set]; exact h.len, fun p o x hp hx => ?_, h.nodup, h.lo, fun o hm => ?_⟩
  · by_cases e : p = q
    · subst e
      rw [hb] at hx
      cases hx
      rw [List.getElem?_set_self (by rw [← h.len]; exact lt_of_get hb)] at hp
      cases hp
      exact hr
    · rw [List.getElem?_set_ne (fun e' => e e'.symm)] at hp
      refine (h.row p o x hp hx).part hP ?_
      simp
      refine ⟨hbw x (List.mem_of_getElem? hx), fun hxb => e ?_⟩
      subst hxb
      exact (List.getElem?_inj (lt_of_get hx) h.nodup).1 (hx.trans hb.symm)
  · rcases List.mem_or_eq_of_mem_set hm with hm | rfl
    · exact h.ok o hm
    · exact ho
/-- the ring and its operations under way (wc, oc); the document's operations and words (od, wo), its records xs; the order zs -/
structure AllN (W : World) (br bk bw n : Nat) (wd : Int) (wc : List Int) (oc : List OpN) (bs : List Nat) (wo : List Int) (od : List OpN) (xs : List DN) (vp vu vo : Value) (zs : List Int) (A : Option Addr) (c : Nat) (wr : World) : Prop where
  rng : Rng wr br bk bw wd wc
  len : wc.length = n
  leno : wo.length = n
  ps : wr.ownsRow W.heap.size 40 1 vp bs.length (ptrs bs)
  un : wr.ownsRow W.heap.size 45 10 vu bs.length (unNs xs)
  ord_ : wr.ownsRow W.heap.size 3 1 vo zs.length (i64s zs)
  doc : wr.ownsRow W.heap.size 37 1 (.slice A n c) n (u64s wo)
  pends : PendsN wr W.heap.size br oc bs
  docs : ∀ (q : Nat) (o : OpN) (x : DN), od[q]? = some o → xs[q]? = some x → DocN n x.t o x ∧ FineN wd o.k x.t o.n o.q ∧ x.t ≤ 9223372036854775807
  lenx : xs.length = bs.length
  lend : od.length = bs.length
  lo : W.heap.size ≤ bw
  low : Below W.heap.size W wr
section
variable {W wr w1 w2 w3 w5 w6 w7 : World} {br bk bw n : Nat} {wd : Int} {wc wo : List Int} {oc od : List OpN} {bs : List Nat} {xs : List DN} {vp vu vo vp2 vu2 vo2 : Value} {zs : List Int} {A A2 : Option Addr} {c c2 : Nat}
theorem AllN.on (h : AllN W br bk bw n wd wc oc bs wo od xs vp vu vo zs A c wr) (hb : Below wr.heap.size wr w1) : AllN W br bk bw n wd wc oc bs wo od xs vp vu vo zs A c w1 :=
  have p := Part.of_below hb (Nat.le_refl _) []
  ⟨h.rng.on hb, h.len, h.leno, own_part h.ps p (by simp), own_part h.un p (by simp), own_part h.ord_ p (by simp), own_part h.doc p (by simp), h.pends.part p (by simp), h.docs, h.lenx, h.lend, h.lo, h.low.trans (hb.mono h.low.size)⟩
theorem AllN.alloc (h : AllN W br bk bw n wd wc oc bs wo od xs vp vu vo zs A c wr) (o : Obj) : AllN W br bk bw n wd wc oc bs wo od xs vp vu vo zs A c (wr.alloc o) := h.on ((Below.refl _ _).alloc (Nat.le_refl _) o)
theorem AllN.drewN (h : AllN W br bk bw n wd wc oc bs wo od xs vp vu vo zs A c wr) (m : Nat) : AllN W br bk bw n wd wc oc bs wo od xs vp vu vo zs A c (wr.drewN m) := h.on (Below.draws (Below.refl _ _) m)
/-- behind what turns a block of another type -/
theorem AllN.off {g : Nat} {t : TypeId} {l : List Value} (h : AllN W br bk bw n wd wc oc bs wo od xs vp vu vo zs A c wr) (hg : Row wr g t l) (hlo : W.heap.size ≤ g) (hP : Part [g] wr w1)
    (n1 : 73 ≠ t) (n2 : 87 ≠ t) (n3 : 106 ≠ t) (n4 : 40 ≠ t) (n5 : 45 ≠ t) (n6 : 37 ≠ t) (n7 : 3 ≠ t) (n8 : 77 ≠ t) : AllN W br bk bw n wd wc oc bs wo od xs vp vu vo zs A c w1 := by
  have r := h.rng
  refine ⟨r.part hP (by simpa using r.head.ne hg n1) (by simpa using r.words.head.ne hg n2) (by simpa using r.words.row.ne hg n3), h.len, h.leno, own_part h.ps hP (fun q hq => by simpa using own_off h.ps hg n4 q hq), own_part h.un hP (fun q hq => by simpa using own_off h.un hg n5 q hq), own_part h.ord_ hP (fun q hq => by simpa using own_off h.ord_ hg n7 q hq), own_part h.doc hP (fun q hq => by simpa using own_off h.doc hg n6 q hq), h.pends.part hP (fun b hb => ?_), h.docs, h.lenx, h.lend, h.lo, h.low.trans (hP.below h.low.size (by simpa using hlo))⟩
  obtain ⟨l', hl⟩ := h.pends.at_ hb
  simpa using hl.ne hg n8
/-- the code's operation is stepped -/
theorem AllN.code {q b : Nat} {o : OpN} {v : Value} {e : Ending} (h : AllN W br bk bw n wd wc oc bs wo od xs vp vu vo zs A c wr) (ho : oc[q]? = some o) (hb : bs[q]? = some b)
    (hs : StepsN wr br bk bw b wd (stepNW wc o) (stepN wc o) v e w1) : AllN W br bk bw n wd (stepNW wc o) (oc.set q (stepN wc o)) bs wo od xs vp vu vo zs A c w1 := by
  obtain ⟨_, hR, hr, hP⟩ := hs
  have hrow := h.pends.row q o b ho hb
  have hlo := h.pends.lo b (List.mem_of_getElem? hb)
  have k : ∀ {e : TypeId} {size k : Nat} {v : Value} {l : List Value}, wr.ownsRow W.heap.size e size v k l → e ≠ 106 → e ≠ 77 → w1.ownsRow W.heap.size e size v k l :=
    fun h0 a1 a2 => own_part h0 hP (fun r hr => by simp; exact ⟨own_off h0 h.rng.words.row a1 r hr, own_off h0 hrow a2 r hr⟩)
  refine ⟨hR, (stepNW_len _ _).trans h.len, h.leno, k h.ps (by decide) (by decide), k h.un (by decide) (by decide), k h.ord_ (by decide) (by decide), k h.doc (by decide) (by decide), h.pends.step hb hr hP (fun x hx => ?_) ((h.pends.ok o (List.mem_of_getElem? ho)).step (fun t => h.rng.words.cell64 h.rng.pos t)), h.docs, h.lenx, h.lend, h.lo, h.low.trans (hP.below h.low.size (by have := h.lo; simp; omega))⟩
  obtain ⟨l', hl⟩ := h.pends.at_ hx
  exact hl.ne h.rng.words.row (by decide)
/-- the document's words are other ones -/
theorem AllN.words (h : AllN W br bk bw n wd wc oc bs wo od xs vp vu vo zs A c wr) (hb : Below wr.heap.size wr w1) {wo2 : List Int} (hl : wo2.length = n) (hd : w1.ownsRow W.heap.size 37 1 (.slice A2 n c2) n (u64s wo2)) : AllN W br bk bw n wd wc oc bs wo2 od xs vp vu vo zs A2 c2 w1 := by
  have h1 := h.on hb
  exact ⟨h1.rng, h1.len, hl, h1.ps, h1.un, h1.ord_, hd, h1.pends, h1.docs, h1.lenx, h1.lend, h1.lo, h1.low⟩
/-- the document's record is stored -/
theorem AllN.unds {q gu cu : Nat} {o o2 : OpN} {x x2 : DN} (h : AllN W br bk bw n wd wc oc bs wo od xs vp (.slice (some ⟨gu, 0, none⟩) bs.length cu) vo zs A c wr) (ho : od[q]? = some o) (hx : xs[q]? = some x) (hd : DocN n x2.t o2 x2) (hf : FineN wd o2.k x2.t o2.n o2.q) (ht : x2.t ≤ 9223372036854775807) :
    AllN W br bk bw n wd wc oc bs wo (od.set q o2) (xs.set q x2) vp (.slice (some ⟨gu, 0, none⟩) bs.length cu) vo zs A c (undSet wr gu (q * 10) x2) := by
  have hgu : (Value.slice (some ⟨gu, 0, none⟩) bs.length cu).ownBlock = some gu := rfl
  have hP := undSet_part wr gu (q * 10) x2
  have hlo := own_from h.un gu hgu
  have r := h.rng
  have k : ∀ {e : TypeId} {size k : Nat} {v : Value} {l : List Value}, wr.ownsRow W.heap.size e size v k l → e ≠ 45 → (undSet wr gu (q * 10) x2).ownsRow W.heap.size e size v k l :=
    fun h0 a1 => own_part h0 hP (fun r hr => by
      simp
      rintro rfl
      rcases own_apart h0 h.un a1 with e | e
      · rw [hr] at e; cases e
      · rw [hr] at e; exact e rfl)
  refine ⟨r.part hP (by simpa using fun e => own_off h.un r.head (by decide) gu hgu e.symm) (by simpa using fun e => own_off h.un r.words.head (by decide) gu hgu e.symm) (by simpa using fun e => own_off h.un r.words.row (by decide) gu hgu e.symm), h.len, h.leno, k h.ps (by decide), un_stored h.un hx, k h.ord_ (by decide), k h.doc (by decide), h.pends.part hP (fun b hb => ?_), fun p o' x' hp hx' => ?_, by rw [List.length_set]; exact h.lenx, by rw [List.length_set]; exact h.lend, h.lo, h.low.trans (hP.below h.low.size (by simpa using hlo))⟩
  · obtain ⟨l', hl⟩ := h.pends.at_ hb
    simpa using fun e => own_off h.un hl (by decide) gu hgu e.symm
  · by_cases e : p = q
    · subst e
      rw [List.getElem?_set_self (lt_of_get ho)] at hp
      rw [List.getElem?_set_self (lt_of_get hx)] at hx'
      cases hp
      cases hx'
      exact ⟨hd, hf, ht⟩
    · rw [List.getElem?_set_ne (fun e' => e e'.symm)] at hp hx'
      exact h.docs p o' x' hp hx'
/-- one operation more: the code's first -/
theorem AllN.grow {k t m : Int} {q bp : Nat} {ob ob' : Obj} (h : AllN W br bk bw n wd wc oc bs wo oc xs vp vu vo zs A c wr) (hf : FineN wd k t m q) (ht : t ≤ 9223372036854775807) (hb5 : Below wr.heap.size wr w5) (hr5 : Row w5 bp 77 (opNL br (newN n k q m))) (hn : wr.heap.size ≤ bp)
    (h6 : w6.ownsRow W.heap.size 40 1 vp2 (bs.length + 1) (ptrs bs ++ [.pointer (some ⟨bp, 0, none⟩)])) (hg6 : (w5.alloc ob).grownBy w6 vp.ownBlock)
    (h7 : w7.ownsRow W.heap.size 45 10 vu2 (bs.length + 1) (unNs xs ++ (DN.mk k t m false false 0 0 false 0 0).cells)) (hg7 : (w6.alloc ob').grownBy w7 vu.ownBlock) :
    AllN W br bk bw n wd wc (oc ++ [newN n k q m]) (bs ++ [bp]) wo (oc ++ [newN n k q m]) (xs ++ [DN.mk k t m false false 0 0 false 0 0]) vp2 vu2 vo zs A c w7 := by
  have hpos := h.rng.pos
  have htop := h.rng.top
  have hlen := h.len
  have h5 := h.on hb5
  have hp5 := h.pends.snoc hb5 hr5 hn h.low.size (OkN.new hf.right (by omega) (by omega))
  have sh : ∀ {b : Nat} {t : TypeId} {l : List Value}, Row w5 b t l → 40 ≠ t → 45 ≠ t → Row w7 b t l := fun hrow n1 n2 => by
    have r6 := (hrow.alloc ob).grown hg6 (own_not_in h5.ps hrow n1)
    have u6 := (h5.un.alloc ob).kept hg6 (own_apart h5.un h5.ps (by decide))
    exact (r6.alloc ob').grown hg7 (own_not_in u6 r6 n2)
  have u6 := (h5.un.alloc ob).kept hg6 (own_apart h5.un h5.ps (by decide))
  have k7 : ∀ {e : TypeId} {size k : Nat} {v : Value} {l : List Value}, w5.ownsRow W.heap.size e size v k l → e ≠ 40 → e ≠ 45 → w7.ownsRow W.heap.size e size v k l := fun h0 n1 n2 => by
    have a6 := (h0.alloc ob).kept hg6 (own_apart h0 h5.ps n1)
    exact (a6.alloc ob').kept hg7 (own_apart a6 u6 n2)
  have hlow6 : Below W.heap.size W w6 := (h5.low.alloc h5.low.size ob).grown hg6 (by have := h5.low.size; simp; omega) (own_from h5.ps)
  have hlow7 : Below W.heap.size W w7 := (hlow6.alloc hlow6.size ob').grown hg7 (by have := hlow6.size; simp; omega) (own_from u6)
  have r5 := h5.rng
  refine ⟨⟨sh r5.head (by decide) (by decide), ⟨sh r5.words.head (by decide) (by decide), sh r5.words.row (by decide) (by decide), r5.words.few, r5.words.ok⟩, r5.pos, r5.top, r5.wid⟩, h.len, h.leno, ?_, ?_, k7 h5.ord_ (by decide) (by decide), k7 h5.doc (by decide) (by decide), ⟨hp5.len, fun p x b hx hb => sh (hp5.row p x b hx hb) (by decide) (by decide), hp5.nodup, hp5.lo, hp5.ok⟩, fun p o x ho hx => ?_, by simp [h.lenx], by simp [h.lend], h.lo, hlow7⟩
  · rw [List.length_append, List.length_singleton, ← ptrs_snoc]
    exact (h6.alloc ob').kept hg7 (own_apart h6 u6 (by decide))
  · rw [List.length_append, List.length_singleton, ← unNs_snoc]
    exact h7
  · rcases get_snoc ho with ⟨_, ho1⟩ | ⟨e1, rfl⟩
    · rcases get_snoc hx with ⟨_, hx1⟩ | ⟨e2, _⟩
      · exact h.docs p o x ho1 hx1
      · exfalso; have := lt_of_get ho1; have := h.lend; have := h.lenx; omega
    · rcases get_snoc hx with ⟨h2, _⟩ | ⟨_, rfl⟩
      · exfalso; have := h.lend; have := h.lenx; omega
      · exact ⟨DocN.new (by rcases hf.kind with e | ⟨e, _⟩; exact .inl e; exact .inr e), hf, ht⟩
/-- the order grows -/
theorem AllN.more {ys : List Int} {ob : Obj} (h : AllN W br bk bw n wd wc oc bs wo od xs vp vu vo zs A c wr) (hy : w1.ownsRow W.heap.size 3 1 vo2 ys.length (i64s ys)) (hg : (wr.alloc ob).grownBy w1 vo.ownBlock) : AllN W br bk bw n wd wc oc bs wo od xs vp vu vo2 ys A c w1 := by
  have a := h.alloc ob
  have sh : ∀ {b : Nat} {t : TypeId} {l : List Value}, Row wr b t l → 3 ≠ t → Row w1 b t l := fun hrow n1 => (hrow.alloc ob).grown hg (own_not_in h.ord_ hrow n1)
  have k : ∀ {e : TypeId} {size k : Nat} {v : Value} {l : List Value}, wr.ownsRow W.heap.size e size v k l → e ≠ 3 → w1.ownsRow W.heap.size e size v k l := fun h0 n1 => (h0.alloc ob).kept hg (own_apart h0 h.ord_ n1)
  have r := h.rng
  exact ⟨⟨sh r.head (by decide), ⟨sh r.words.head (by decide), sh r.words.row (by decide), r.words.few, r.words.ok⟩, r.pos, r.top, r.wid⟩, h.len, h.leno, k h.ps (by decide), k h.un (by decide), hy, k h.doc (by decide), ⟨h.pends.len, fun p x b hx hb => sh (h.pends.row p x b hx hb) (by decide), h.pends.nodup, h.pends.lo, h.pends.ok⟩, h.docs, h.lenx, h.lend, h.lo, a.low.grown hg (by have := h.low.size; simp; omega) (own_from h.ord_)⟩
/-- the order begins -/
theorem AllN.first_ {ys : List Int} (h : AllN W br bk bw n wd wc oc bs wo od xs vp vu (.slice none 0 0) [] A c wr) (hy : w1.ownsRow W.heap.size 3 1 vo2 ys.length (i64s ys)) (hg : wr.grownBy w1 none) : AllN W br bk bw n wd wc oc bs wo od xs vp vu vo2 ys A c w1 := by
  have h1 := h.on ((Below.refl _ _).grown hg (Nat.le_refl _) (by simp))
  exact ⟨h1.rng, h1.len, h1.leno, h1.ps, h1.un, hy, h1.doc, h1.pends, h1.docs, h1.lenx, h1.lend, h1.lo, h1.low⟩
theorem AllN.nil (h : Rng wr br bk bw wd wc) (hl : wc.length = n) (hd : wr.ownsRow W.heap.size 37 1 (.slice A n c) n (u64s wc)) (hlo : W.heap.size ≤ bw) (hlow : Below W.heap.size W wr) : AllN W br bk bw n wd wc [] [] wc [] [] (.slice none 0 0) (.slice none 0 0) (.slice none 0 0) [] A c wr :=
  ⟨h, hl, hl, World.ownsRow_nil _ _ _ _, World.ownsRow_nil _ _ _ _, World.ownsRow_nil _ _ _ _, hd, ⟨rfl, by simp, by simp, by simp, by simp⟩, by simp, rfl, rfl, hlo, hlow⟩
/-- one of them -/
theorem AllN.get {q : Nat} (h : AllN W br bk bw n wd wc oc bs wo oc xs vp vu vo zs A c wr) (hq : q < bs.length) : ∃ o b x gp cp gu cu, oc[q]? = some o ∧ bs[q]? = some b ∧ xs[q]? = some x ∧ Row wr b 77 (opNL br o) ∧ OkN o ∧ DocN n x.t o x ∧ FineN wd o.k x.t o.n o.q ∧ x.t ≤ 9223372036854775807 ∧ vp = .slice (some ⟨gp, 0, none⟩) bs.length cp ∧ vu = .slice (some ⟨gu, 0, none⟩) bs.length cu ∧
    wr.cell? ⟨gp, q, none⟩ = some (.pointer (some ⟨b, 0, none⟩)) ∧ gp < wr.heap.size ∧ gu < wr.heap.size ∧ gp ≠ gu := by
  obtain ⟨gp, cp, rfl, _, hgp⟩ := own_some h.ps (by omega)
  obtain ⟨gu, cu, rfl, _, hgu⟩ := own_some h.un (by omega)
  have h1 : oc[q]? = some (oc[q]'(by rw [h.lend]; exact hq)) := List.getElem?_eq_getElem _
  have h2 : bs[q]? = some bs[q] := List.getElem?_eq_getElem hq
  have h3 : xs[q]? = some (xs[q]'(by rw [h.lenx]; exact hq)) := List.getElem?_eq_getElem _
  obtain ⟨d1, d2, d3⟩ := h.docs q _ _ h1 h3
  refine ⟨_, _, _, gp, cp, gu, cu, h1, h2, h3, h.pends.row q _ _ h1 h2, h.pends.ok _ (List.mem_of_getElem? h1), d1, d2, d3, rfl, rfl, own_cell h.ps (ptrs_get h2), hgp, hgu, ?_⟩
  rintro rfl
  rcases own_apart h.ps h.un (by decide) with e | e
  · cases e
  · exact e rfl
theorem AllN.places {q b gp cp gu cu : Nat} (h : AllN W br bk bw n wd wc oc bs wo od xs (.slice (some ⟨gp, 0, none⟩) bs.length cp) (.slice (some ⟨gu, 0, none⟩) bs.length cu) vo zs A c wr) (hb : bs[q]? = some b) : wr.cell? ⟨gp, q, none⟩ = some (.pointer (some ⟨b, 0, none⟩)) ∧ gp < wr.heap.size ∧ gu < wr.heap.size :=
  ⟨own_cell h.ps (ptrs_get hb), own_block h.ps gp rfl, own_block h.un gu rfl⟩
end
end Go.Proofs.Ytjehcgeodcpcaaa
