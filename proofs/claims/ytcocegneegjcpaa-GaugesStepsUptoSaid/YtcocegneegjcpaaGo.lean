/- ADDS THAT ARE ALL UNDER WAY: plain words of what GaugesAdded keeps. -/
import Derived.Test.YtcocegneegjcpaaGk
import Derived.Laws.OwnMore
namespace Go.Proofs.Ytcocegneegjcpaa
open Go Go.RowKit

theorem wpList_append_any {P : Program} {w : World} {ops : Array Oper} {rest : List Oper} {o : Oper} {a : Act} {Q : Exit → Act → World → Prop} (hgd : o.guard = none) (s x : Operand) (t : TypeId)
    (ho : o.op = .call { callee := .builtin .append, args := #[s, x], argTypes := #[t, t] })
    (base : Nat) (e : TypeId) (i : TypeInfo) (z : Value) (size bytes : Nat) (ht : P.underlying t = some (.slice e)) (hi : P.info? e = some i) (hz : i.zero = some z)
    (hsize : i.size = size) (hby : i.bytes = bytes) (hzs : z.cells.size = size) (hsz : 0 < size)
    (v : Value) (n : Nat) (xs : List Value) (hs : a.eval s = v) (hown : w.ownsRow base e size v n xs)
    (ao : Option Addr) (m c : Nat) (news : List Value) (hx : a.eval x = .slice ao m c) (hl : news.length = m * size) (hnone : ao = none → m = 0 ∧ c = 0) (hnews : ∀ ad, ao = some ad → ∀ j u, news[j]? = some u → w.cell? (ad.add j) = some u) (h1 : ∀ u ∈ news, u.oneCell' = true)
    (h63 : n + m ≤ maxLen) (hbytes : (n + m) * bytes ≤ 140737488355328) (hbase : base ≤ w.heap.size)
    (h : ∀ v' w', w'.ownsRow base e size v' (n + m) (xs ++ news) → w.grownBy w' v.ownBlock → wpList P ops Q rest (a.put o.dst v') w') : wpList P ops Q (o :: rest) a w := by
  cases ao with
  | some ad => exact wpList_append_own w hgd s x t ho base e i z size bytes ht hi hz hsize hby hzs hsz v n xs hs hown ad m c news hx hl (hnews ad rfl) h1 h63 hbytes hbase (fun v' w' a b _ => h v' w' a b)
  | none =>
    obtain ⟨rfl, rfl⟩ := hnone rfl
    have hnn : news = [] := List.eq_nil_of_length_eq_zero (by simpa using hl)
    subst hnn
    subst hs
    refine wpList_plain hgd fun K hK' => ?_
    have hrun := run_append_owned_none (P := P) w base t o.type e i size ht hi _ n xs hown
    unfold Oper.wp
    simp [execOp, ho, resolve, invoke, builtin, hx, hrun, Result.andThen]
    exact hK' _ _ (by simpa using h _ w (by simpa using hown) (World.grownBy.refl _ _))

theorem run_same {a b : Nat} (la : B64 a) (lb : B64 b) (h : GM.bitsOf a = GM.bitsOf b) (w : World) : Calls Try.prog 16 #[.float .f64 a, .float .f64 b] w fun e w' => e = .returned (.bool true) ∧ w = w' := by
  have ha : (FloatKind.f64.format.order a a != some .eq) = GM.nan a := GM.self_ne la
  have hb : (FloatKind.f64.format.order b b != some .eq) = GM.nan b := GM.self_ne lb
  have hn : GM.nan b = GM.nan a := by rw [← GM.nan_bits a, ← GM.nan_bits b, h]
  cases hc : GM.nan a with
  | true =>
    rw [hn, hc] at hb
    rw [hc] at ha
    clear la lb h hn hc
    go_enter Try.func16, Try.ntmps16
    go_wp2
    go_ret
    exact ⟨rfl, rfl⟩
  | false =>
    have e : a = b := by rw [GM.bits_num hc, GM.bits_num (hn.trans hc)] at h; exact h
    subst e
    rw [hc] at ha hb
    have r1 := run_bits a w
    clear la lb h hn hc
    go_enter Try.func16, Try.ntmps16
    go_wp2
    go_ret
    exact ⟨by simp, rfl⟩

/-- the order in which operations are stepped: the schedule's, then each one's alone -/
def ordI (zs : List Int) (n : Nat) : List Int := zs ++ (List.range n).flatMap fun (i : Nat) => [(i : Int), (i : Int), (i : Int)]
def i64s (l : List Int) : List Value := l.map (Value.int .i64)
theorem i64s_get {l : List Int} {j : Nat} {x : Int} (h : l[j]? = some x) : (i64s l)[j]? = some (.int .i64 x) := by simp [i64s, h]
theorem i64s_length (l : List Int) : (i64s l).length = l.length := by simp [i64s]
theorem ordI_zero (zs : List Int) : ordI zs 0 = zs := by simp [ordI]
theorem ordI_next (zs : List Int) (n : Nat) : i64s (ordI zs n) ++ [.int .i64 (n : Int), .int .i64 (n : Int), .int .i64 (n : Int)] = i64s (ordI zs (n + 1)) := by
  simp [ordI, i64s, List.range_succ, List.flatMap_append]
theorem ordI_length (zs : List Int) (n : Nat) : (ordI zs n).length = zs.length + 3 * n := by
  induction n with
  | zero => simp [ordI]
  | succ n ih =>
    have := congrArg List.length (ordI_next zs n)
    simp only [List.length_append, i64s_length, List.length_cons, List.length_nil] at this
    omega
theorem ordI_get_lo {zs : List Int} {n j : Nat} (h : j < zs.length) : (ordI zs n)[j]? = zs[j]? := by unfold ordI; rw [List.getElem?_append_left h]
theorem ordI_get_hi {zs : List Int} {n j : Nat} (h : zs.length ≤ j) (h2 : j < zs.length + 3 * n) : (ordI zs n)[j]? = some (((j - zs.length) / 3 : Nat) : Int) := by
  induction n with
  | zero => omega
  | succ n ih =>
    have hl := ordI_length zs n
    have e : ordI zs (n + 1) = ordI zs n ++ [(n : Int), (n : Int), (n : Int)] := by simp [ordI, List.range_succ, List.flatMap_append]
    rw [e]
    by_cases hj : j < zs.length + 3 * n
    · rw [List.getElem?_append_left (by omega)]
      exact ih hj
    · rw [List.getElem?_append_right (by omega), hl]
      have e3 : (j - zs.length) / 3 = n := by omega
      rw [e3]
      have : j - (zs.length + 3 * n) = 0 ∨ j - (zs.length + 3 * n) = 1 ∨ j - (zs.length + 3 * n) = 2 := by omega
      rcases this with h | h | h <;> rw [h] <;> rfl

def n64s (l : List Nat) : List Value := l.map fun (x : Nat) => .int .u64 (x : Int)
theorem n64s_get {l : List Nat} {q x : Nat} (h : l[q]? = some x) : (n64s l)[q]? = some (.int .u64 (x : Int)) := by simp [n64s, h]
theorem n64s_set (l : List Nat) (q x : Nat) : (n64s l).set q (.int .u64 (x : Int)) = n64s (l.set q x) := by simp [n64s, List.map_set]
theorem n64s_made (n : Nat) : (madeCells (Value.int .u64 0).cells (n * 1)).toList = n64s (List.replicate n 0) := by
  apply List.ext_getElem?
  intro i
  simp only [madeCells, Value.cells, Nat.mul_one, n64s]
  by_cases h : i < n
  · simp [h, Nat.mod_one]
  · simp [h]
theorem infoU : (Try.prog.info? 29).map (fun i => (i.zero, i.size, i.bytes)) = some (some (.int .u64 0), 1, 8) := by kernel_rfl
theorem infoIN : (Try.prog.info? 3).map (fun i => (i.zero, i.size, i.bytes)) = some (some (.int .i64 0), 1, 8) := by kernel_rfl
theorem three_ints (i : Int) : ∀ u ∈ [Value.int .i64 i, .int .i64 i, .int .i64 i], u.oneCell' = true := by
  intro u hu
  simp at hu
  subst hu
  rfl
theorem all_ints (l : List Int) : ∀ u ∈ i64s l, u.oneCell' = true := by
  intro u hu
  simp [i64s] at hu
  obtain ⟨x, _, rfl⟩ := hu
  rfl

/-- operations under way, the order, and what each has loaded -/
structure AddM (W : World) (bg bk bw T : Nat) (os : List OpG) (bs : List Nat) (vp vo : Value) (ord : List Int) (gl : Nat) (ld : List Nat) (wr : World) : Prop where
  many : ManyG W bg bk bw T os bs vp wr
  ordr : wr.ownsRow W.heap.size 3 1 vo ord.length (i64s ord)
  row : Row wr gl 29 (n64s ld)
  lo : W.heap.size ≤ gl
  len : ld.length = bs.length
section
variable {W wr w1 : World} {bg bk bw T T' gl : Nat} {os : List OpG} {bs ld : List Nat} {vp vo : Value} {ord : List Int}
theorem AddM.on (h : AddM W bg bk bw T os bs vp vo ord gl ld wr) (hb : Below wr.heap.size wr w1) : AddM W bg bk bw T os bs vp vo ord gl ld w1 :=
  ⟨h.many.on hb, own_part h.ordr (Part.of_below hb (Nat.le_refl _) []) (by simp), h.row.below hb h.row.lt, h.lo, h.len⟩
theorem AddM.alloc (h : AddM W bg bk bw T os bs vp vo ord gl ld wr) (o : Obj) : AddM W bg bk bw T os bs vp vo ord gl ld (wr.alloc o) := h.on ((Below.refl _ _).alloc (Nat.le_refl _) o)
theorem AddM.drew (h : AddM W bg bk bw T os bs vp vo ord gl ld wr) : AddM W bg bk bw T os bs vp vo ord gl ld wr.drew := h.on (Below.refl _ _).drew
theorem AddM.word (h : AddM W bg bk bw T os bs vp vo ord gl ld wr) (hB : Gau w1 bg bk bw T') (hP : Part [bw] wr w1) : AddM W bg bk bw T' os bs vp vo ord gl ld w1 :=
  ⟨h.many.word hB hP, own_part h.ordr hP (fun q hq => by simpa using own_off h.ordr h.many.one.gau.words.row (by decide) q hq), h.row.part hP (by simpa using h.row.ne h.many.one.gau.words.row (by decide)), h.lo, h.len⟩
theorem AddM.step {q b : Nat} {o' : OpG} {v : Value} {e : Ending} (h : AddM W bg bk bw T os bs vp vo ord gl ld wr) (hb : bs[q]? = some b) (hT : B64 T') (ho' : OkG o') (hs : StepsG wr bk bw b T' o' v e w1) : AddM W bg bk bw T' (os.set q o') bs vp vo ord gl ld w1 := by
  obtain ⟨_, hW, hR, hP⟩ := hs
  obtain ⟨x, hx⟩ : ∃ x, os[q]? = some x := ⟨_, List.getElem?_eq_getElem (by rw [← h.many.pends.len]; exact lt_of_get hb)⟩
  have hrow := h.many.pends.row q x b hx hb
  exact ⟨h.many.step hb hW hT hR hP ho', own_part h.ordr hP (fun r hr => by simp; exact ⟨own_off h.ordr h.many.one.gau.words.row (by decide) r hr, own_off h.ordr hrow (by decide) r hr⟩),
    h.row.part hP (by simp; exact ⟨h.row.ne h.many.one.gau.words.row (by decide), h.row.ne hrow (by decide)⟩), h.lo, h.len⟩
theorem AddM.write {q x : Nat} (h : AddM W bg bk bw T os bs vp vo ord gl ld wr) : AddM W bg bk bw T os bs vp vo ord gl (ld.set q x) (wr.setCell ⟨gl, q, none⟩ (.int .u64 (x : Int))) := by
  have hP : Part [gl] wr (wr.setCell ⟨gl, q, none⟩ (.int .u64 (x : Int))) := Part.set (Part.refl _ _) (by simp) _
  exact ⟨h.many.off h.row h.lo hP (by decide) (by decide) (by decide) (by decide) (by decide), own_part h.ordr hP (fun r hr => by simpa using own_off h.ordr h.row (by decide) r hr), by rw [← n64s_set]; exact h.row.set q _, h.lo, by rw [List.length_set]; exact h.len⟩
end
/-- each adds its own number; who has loaded, has what stands in the list -/
structure AddI (xs : List Nat) (T : Nat) (os : List OpG) (ld : List Nat) : Prop where
  canon : GM.bitsOf T = T
  ops : ∀ (q : Nat) o, os[q]? = some o → o.k = 3 ∧ xs[q]? = some o.x ∧ (o.ph = 1 → ld[q]? = some o.saw)
theorem addB_canon (v x : Nat) : GM.bitsOf (addB v x) = addB v x := by
  unfold addB
  cases Ieee.double.add v x with
  | some r => exact GM.bits_bits r
  | none => decide
theorem AddI.set {xs ld ld' : List Nat} {T T' q : Nat} {os : List OpG} {o o' : OpG} (h : AddI xs T os ld) (ho : os[q]? = some o) (hT : GM.bitsOf T' = T') (e1 : o'.k = o.k) (e2 : o'.x = o.x) (hq : o'.ph = 1 → ld'[q]? = some o'.saw) (hl : ∀ p, p ≠ q → ld'[p]? = ld[p]?) : AddI xs T' (os.set q o') ld' := by
  refine ⟨hT, fun p y hy => ?_⟩
  by_cases e : p = q
  · subst e
    rw [List.getElem?_set_self (lt_of_get ho)] at hy
    cases hy
    obtain ⟨a, b, _⟩ := h.ops p o ho
    exact ⟨e1.trans a, by rw [e2]; exact b, hq⟩
  · rw [List.getElem?_set_ne (fun e' => e e'.symm)] at hy
    obtain ⟨a, b, c⟩ := h.ops p y hy
    exact ⟨a, b, fun hp => by rw [hl p e]; exact c hp⟩
/-- how many have ended -/
def oversG (os : List OpG) : Nat := os.countP fun o => o.ph == 2
theorem oversG_le (os : List OpG) : oversG os ≤ os.length := List.countP_le_length
theorem oversG_set {os : List OpG} {o' : OpG} : ∀ {q : Nat} {o : OpG}, os[q]? = some o → oversG (os.set q o') + (if o.ph = 2 then 1 else 0) = oversG os + (if o'.ph = 2 then 1 else 0) := by
  induction os with
  | nil => intro q o h; simp at h
  | cons a os ih =>
    intro q o h
    cases q with
    | zero => simp at h; subst h; simp [oversG, List.countP_cons]; omega
    | succ q =>
      simp at h
      have := ih h
      unfold oversG at this ⊢
      simp only [List.set_cons_succ, List.countP_cons]
      omega
theorem oversG_new (k : Int) (xs : List Nat) : oversG (xs.map (newG k)) = 0 := by
  unfold oversG
  rw [List.countP_eq_zero]
  intro o ho
  obtain ⟨x, _, rfl⟩ := List.mem_map.1 ho
  simp [newG]
theorem oversG_all {os : List OpG} (h : ∀ (i : Nat) (o : OpG), os[i]? = some o → o.ph = 2) : oversG os = os.length := by
  unfold oversG
  rw [List.countP_eq_length]
  intro o ho
  obtain ⟨i, hi⟩ := List.getElem?_of_mem ho
  simp [h i o hi]
/-- behind the schedule (m long) each has its own three steps -/
structure LateI (m j T : Nat) (os : List OpG) : Prop where
  over : ∀ i o, i < (j - m) / 3 → os[i]? = some o → o.ph = 2
  left : ∀ o, m ≤ j → os[(j - m) / 3]? = some o → leftG T o + (j - m) % 3 ≤ 3
theorem LateI.start (m T : Nat) (os : List OpG) : LateI m 0 T os := ⟨fun i o h => by simp at h, fun o _ _ => by have := left_le T o; simp; omega⟩
theorem LateI.skip {m j T : Nat} {os : List OpG} (h : LateI m j T os) (hs : m ≤ j → ∃ o, os[(j - m) / 3]? = some o ∧ o.ph = 2) : LateI m (j + 1) T os := by
  by_cases hm : m ≤ j
  · obtain ⟨o, ho, h2⟩ := hs hm
    refine ⟨fun i x hi hx => ?_, fun x _ hx => ?_⟩
    · by_cases e : i = (j - m) / 3
      · subst e; rw [ho] at hx; cases hx; exact h2
      · exact h.over i x (by omega) hx
    · by_cases e : (j + 1 - m) / 3 = (j - m) / 3
      · rw [e, ho] at hx
        cases hx
        have : leftG T o = 0 := by simp [leftG, h2]
        omega
      · have := left_le T x
        omega
  · refine ⟨fun i x hi hx => by omega, fun x _ _ => by have := left_le T x; omega⟩
theorem LateI.step {m j T q : Nat} {os : List OpG} {o : OpG} (h : LateI m j T os) (ho : os[q]? = some o) (hok : OkG o) (hT : B64 T) (h2 : o.ph ≠ 2) (hq : m ≤ j → q = (j - m) / 3) : LateI m (j + 1) (wordG T o) (os.set q (stepG T o)) := by
  have hl := left_step (T := T) hok h2
  by_cases hm : m ≤ j
  · have hq' := hq hm
    have h3 := h.left o hm (by rw [← hq']; exact ho)
    refine ⟨fun i x hi hx => ?_, fun x _ hx => ?_⟩
    · by_cases e : i = q
      · subst e
        rw [List.getElem?_set_self (lt_of_get ho)] at hx
        cases hx
        have e0 : leftG (wordG T o) (stepG T o) = 0 := by omega
        exact left_none (hok.step hT) e0
      · rw [List.getElem?_set_ne (fun e' => e e'.symm)] at hx
        exact h.over i x (by omega) hx
    · by_cases e : (j + 1 - m) / 3 = q
      · rw [e, List.getElem?_set_self (lt_of_get ho)] at hx
        cases hx
        omega
      · have := left_le (wordG T o) x
        omega
  · refine ⟨fun i x hi hx => by omega, fun x _ _ => by have := left_le (wordG T o) x; omega⟩
end Go.Proofs.Ytcocegneegjcpaa
