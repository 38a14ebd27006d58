/- OPERATIONS OF A COUNTER AND THE DOCUMENT'S OWN, SIDE BY SIDE. -/
import Derived.Test.YtcocegneegjcpaaSx
import Derived.Test.YtcocegneegjcpaaSr
import Derived.Deep.RegionHeld3
namespace Go.Proofs.Ytcocegneegjcpaa
open Go Go.RowKit

/-- the document's record of an operation -/
def unL (o : OpS) : List Value := [.int .u8 o.k, .int .i64 (o.i : Int), .int .u64 o.y, .int .i64 (o.t : Int), .int .u64 o.s]
def unCells (os : List OpS) : List Value := os.flatMap unL
theorem unL_length (o : OpS) : (unL o).length = 5 := rfl
theorem unCells_snoc (os : List OpS) (o : OpS) : unCells os ++ unL o = unCells (os ++ [o]) := by simp [unCells]
theorem unCells_get {os : List OpS} : ∀ {q : Nat} {o : OpS}, os[q]? = some o → ∀ j, j < 5 → (unCells os)[q * 5 + j]? = (unL o)[j]? := by
  induction os with
  | nil => intro q o h; simp at h
  | cons a os ih =>
    intro q o h j hj
    have e : unCells (a :: os) = unL a ++ unCells os := rfl
    rw [e]
    cases q with
    | zero => simp at h; subst h; rw [List.getElem?_append_left (by rw [unL_length]; omega)]; simp
    | succ q =>
      simp at h
      rw [List.getElem?_append_right (by rw [unL_length]; omega), unL_length]
      have e1 : (q + 1) * 5 + j - 5 = q * 5 + j := by omega
      rw [e1]
      exact ih h j hj
theorem un_app_set {a l : List Value} {m : Nat} {v : Value} (ha : a.length = 5) : (a ++ l).set (m + 5) v = a ++ l.set m v := by
  rw [List.set_append, if_neg (by omega)]
  congr 2
  omega
theorem unCells_set {os : List OpS} {o' : OpS} : ∀ {q : Nat} {o : OpS}, os[q]? = some o →
    ((((((unCells os).set (q * 5) (.int .u8 o'.k)).set (q * 5 + 1) (.int .i64 (o'.i : Int))).set (q * 5 + 2) (.int .u64 o'.y)).set (q * 5 + 3) (.int .i64 (o'.t : Int))).set (q * 5 + 4) (.int .u64 o'.s)) = unCells (os.set q o') := by
  induction os with
  | nil => intro q o h; simp at h
  | cons a os ih =>
    intro q o h
    have e : unCells (a :: os) = unL a ++ unCells os := rfl
    rw [e]
    cases q with
    | zero => simp [unCells, unL]
    | succ q =>
      simp at h
      have e0 : (q + 1) * 5 = q * 5 + 5 := by omega
      have e1 : (q + 1) * 5 + 1 = q * 5 + 1 + 5 := by omega
      have e2 : (q + 1) * 5 + 2 = q * 5 + 2 + 5 := by omega
      have e3 : (q + 1) * 5 + 3 = q * 5 + 3 + 5 := by omega
      have e4 : (q + 1) * 5 + 4 = q * 5 + 4 + 5 := by omega
      rw [e4, e3, e2, e1, e0, un_app_set (unL_length a), un_app_set (unL_length a), un_app_set (unL_length a), un_app_set (unL_length a), un_app_set (unL_length a)]
      rw [ih h]
      rfl
theorem un_five (o : OpS) : ∀ u ∈ unL o, u.oneCell' = true := by
  intro u hu
  simp [unL] at hu
  rcases hu with rfl | rfl | rfl | rfl | rfl <;> rfl
theorem infoUN : (Try.prog.info? 70).map (fun i => (i.zero, i.size, i.bytes)) = some (some (.agg #[.int .u8 0, .int .i64 0, .int .u64 0, .int .i64 0, .int .u64 0]), 5, 40) := by kernel_rfl
theorem new_cellsS (w : World) (l : List Value) (t : TypeId) : ∀ j u, l[j]? = some u → (w.alloc (.cells l.toArray t)).cell? ((⟨w.heap.size, 0, none⟩ : Addr).add j) = some u := by
  intro j u hj
  rw [add_zero_]
  exact ((Row.new w t l).cell j).trans hj
/-- five stores -/
def unSet (w : World) (g i : Nat) (o : OpS) : World := ((((w.setCell ⟨g, i, none⟩ (.int .u8 o.k)).setCell ⟨g, i + 1, none⟩ (.int .i64 (o.i : Int))).setCell ⟨g, i + 2, none⟩ (.int .u64 o.y)).setCell ⟨g, i + 3, none⟩ (.int .i64 (o.t : Int))).setCell ⟨g, i + 4, none⟩ (.int .u64 o.s)
theorem un_part (w : World) (g i : Nat) (o : OpS) : Part [g] w (unSet w g i o) :=
  (((((Part.refl [g] w).set (by simp) _).set (by simp) _).set (by simp) _).set (by simp) _).set (by simp) _
section
variable {w : World} {base g n c q : Nat} {os : List OpS} {o o' : OpS}
theorem un_cells (h : w.ownsRow base 70 5 (.slice (some ⟨g, 0, none⟩) n c) n (unCells os)) (hp : os[q]? = some o) :
    w.cell? ⟨g, q * 5, none⟩ = some (.int .u8 o.k) ∧ w.cell? ⟨g, q * 5 + 1, none⟩ = some (.int .i64 (o.i : Int)) ∧ w.cell? ⟨g, q * 5 + 2, none⟩ = some (.int .u64 o.y) ∧ w.cell? ⟨g, q * 5 + 3, none⟩ = some (.int .i64 (o.t : Int)) ∧ w.cell? ⟨g, q * 5 + 4, none⟩ = some (.int .u64 o.s) :=
  ⟨by simpa using own_cell h ((unCells_get hp 0 (by omega)).trans rfl), own_cell h ((unCells_get hp 1 (by omega)).trans rfl), own_cell h ((unCells_get hp 2 (by omega)).trans rfl), own_cell h ((unCells_get hp 3 (by omega)).trans rfl), own_cell h ((unCells_get hp 4 (by omega)).trans rfl)⟩
theorem un_stored (h : w.ownsRow base 70 5 (.slice (some ⟨g, 0, none⟩) n c) n (unCells os)) (hp : os[q]? = some o) :
    (unSet w g (q * 5) o').ownsRow base 70 5 (.slice (some ⟨g, 0, none⟩) n c) n (unCells (os.set q o')) := by
  have h0 := (h.stored (q * 5) (.int .u8 o'.k)).1
  have h1 := (h0.stored (q * 5 + 1) (.int .i64 (o'.i : Int))).1
  have h2 := (h1.stored (q * 5 + 2) (.int .u64 o'.y)).1
  have h3 := (h2.stored (q * 5 + 3) (.int .i64 (o'.t : Int))).1
  have h4 := (h3.stored (q * 5 + 4) (.int .u64 o'.s)).1
  rw [unCells_set hp] at h4
  exact h4
end
/-- the counter and its operations under way (wc, oc); the document's operations and cells (od, wd) -/
structure AllS (W : World) (bc bk bw n m : Nat) (wc : List Int) (oc : List OpS) (bs : List Nat) (od : List OpS) (wd : List Int) (vp vu vd : Value) (wr : World) : Prop where
  ps : wr.ownsRow W.heap.size 62 1 vp bs.length (ptrs bs)
  und : wr.ownsRow W.heap.size 70 5 vu bs.length (unCells od)
  doc : wr.ownsRow W.heap.size 29 1 vd m (u64s wd)
  pends : Pends wr W.heap.size bk n oc bs
  shard : Shard wr bc bk bw wc
  len : wc.length = n
  lo : W.heap.size ≤ bw
  low : Below W.heap.size W wr
section
variable {W wr w1 w5 w6 w7 : World} {bc bk bw n m m' : Nat} {wc wc' : List Int} {oc od : List OpS} {bs : List Nat} {wd wd' : List Int} {vp vu vd vp' vu' vd' : Value} {q : Nat}
theorem AllS.on (h : AllS W bc bk bw n m wc oc bs od wd vp vu vd wr) (hb : Below wr.heap.size wr w1) : AllS W bc bk bw n m wc oc bs od wd vp vu vd w1 :=
  ⟨own_part h.ps (Part.of_below hb (Nat.le_refl _) []) (by simp), own_part h.und (Part.of_below hb (Nat.le_refl _) []) (by simp), own_part h.doc (Part.of_below hb (Nat.le_refl _) []) (by simp), h.pends.part (Part.of_below hb (Nat.le_refl _) []) (by simp), h.shard.on hb, h.len, h.lo, h.low.trans (hb.mono h.low.size)⟩
theorem AllS.alloc (h : AllS W bc bk bw n m wc oc bs od wd vp vu vd wr) (o : Obj) : AllS W bc bk bw n m wc oc bs od wd vp vu vd (wr.alloc o) := h.on ((Below.refl _ _).alloc (Nat.le_refl _) o)
/-- the document's cells are new ones -/
theorem AllS.docs (h : AllS W bc bk bw n m wc oc bs od wd vp vu vd wr) (hb : Below wr.heap.size wr w1) (hd : w1.ownsRow wr.heap.size 29 1 vd' m' (u64s wd')) : AllS W bc bk bw n m' wc oc bs od wd' vp vu vd' w1 := by
  have h1 := h.on hb
  exact ⟨h1.ps, h1.und, own_base hd h.low.size, h1.pends, h1.shard, h1.len, h1.lo, h1.low⟩
/-- behind what turns a block of another type -/
theorem AllS.off {g : Nat} {t : TypeId} {l : List Value} (h : AllS W bc bk bw n m wc oc bs od wd vp vu vd wr) (hg : Row wr g t l) (hlo : W.heap.size ≤ g) (hP : Part [g] wr w1)
    (n1 : 121 ≠ t) (n2 : 145 ≠ t) (n3 : 154 ≠ t) (n4 : 62 ≠ t) (n5 : 126 ≠ t) (n6 : 70 ≠ t) (n7 : 29 ≠ t) : AllS W bc bk bw n m wc oc bs od wd vp vu vd w1 :=
  ⟨own_part h.ps hP (fun q hq => by simpa using own_off h.ps hg n4 q hq), own_part h.und hP (fun q hq => by simpa using own_off h.und hg n6 q hq), own_part h.doc hP (fun q hq => by simpa using own_off h.doc hg n7 q hq),
   ⟨h.pends.len, fun q o x ho hx => (h.pends.row q o x ho hx).part hP (by simpa using (h.pends.row q o x ho hx).ne hg n5), h.pends.nodup, h.pends.lo, h.pends.right⟩,
   h.shard.part hP (by simpa using h.shard.head.ne hg n1) (by simpa using h.shard.words.head.ne hg n2) (by simpa using h.shard.words.row.ne hg n3), h.len, h.lo, h.low.trans (hP.below h.low.size (by simpa using hlo))⟩
/-- the code's operation is stepped -/
theorem AllS.code {b : Nat} {o o' : OpS} {v : Value} {e : Ending} (h : AllS W bc bk bw n m wc oc bs od wd vp vu vd wr) (ho : oc[q]? = some o) (hb : bs[q]? = some b) (hl : wc'.length = n) (hr : RightN o'.k o'.i o'.y)
    (hs : Stepped wr bk bw b wc' (opL bk n o'.k o'.i o'.y o'.t o'.s) v e w1) : AllS W bc bk bw n m wc' (oc.set q o') bs od wd vp vu vd w1 := by
  obtain ⟨_, hW, hR, hP⟩ := hs
  have hmem := List.mem_of_getElem? hb
  have hrow := h.pends.row q o b ho hb
  have hlo := h.pends.lo b hmem
  have n1 : bc ∉ [bw, b] := by simp; exact ⟨h.shard.ne, h.shard.head.ne hrow (by decide)⟩
  have k : ∀ {e : TypeId} {size k : Nat} {v : Value} {xs : List Value}, wr.ownsRow W.heap.size e size v k xs → e ≠ 154 → e ≠ 126 → w1.ownsRow W.heap.size e size v k xs :=
    fun h0 a1 a2 => own_part h0 hP (fun r hr => by simp; exact ⟨own_off h0 h.shard.words.row a1 r hr, own_off h0 hrow a2 r hr⟩)
  have hp := h.shard.pos
  have ht := h.shard.top
  have hw := h.len
  refine ⟨k h.ps (by decide) (by decide), k h.und (by decide) (by decide), k h.doc (by decide) (by decide), ?_, ⟨h.shard.head.part hP n1, hW, by omega, by omega⟩, hl, h.lo, h.low.trans (hP.below h.low.size (by have := h.lo; simp; omega))⟩
  refine h.pends.step hb hR hP (fun y hy => ?_) hr
  obtain ⟨r, hr'⟩ := List.getElem?_of_mem hy
  exact (h.pends.row r _ y (List.getElem?_eq_getElem (by rw [← h.pends.len]; exact lt_of_get hr')) hr').ne h.shard.words.row (by decide)
/-- the document's record is stored -/
theorem AllS.unds {gu cu : Nat} {o o' : OpS} (h : AllS W bc bk bw n m wc oc bs od wd vp (.slice (some ⟨gu, 0, none⟩) bs.length cu) vd wr) (ho : od[q]? = some o) :
    AllS W bc bk bw n m wc oc bs (od.set q o') wd vp (.slice (some ⟨gu, 0, none⟩) bs.length cu) vd (unSet wr gu (q * 5) o') := by
  have hgu : (Value.slice (some ⟨gu, 0, none⟩) bs.length cu).ownBlock = some gu := rfl
  have hP := un_part wr gu (q * 5) o'
  have hlo := own_from h.und gu hgu
  have s := h.shard
  have k : ∀ {e : TypeId} {size k : Nat} {v : Value} {xs : List Value}, wr.ownsRow W.heap.size e size v k xs → e ≠ 70 → (unSet wr gu (q * 5) o').ownsRow W.heap.size e size v k xs :=
    fun h0 a1 => own_part h0 hP (fun r hr => by
      simp
      rintro rfl
      rcases own_apart h0 h.und a1 with e | e
      · rw [hr] at e; cases e
      · rw [hr] at e; exact e rfl)
  refine ⟨k h.ps (by decide), un_stored h.und ho, k h.doc (by decide), h.pends.part hP (fun x hx => ?_), s.part hP (by simpa using fun e => own_off h.und s.head (by decide) gu hgu e.symm) (by simpa using fun e => own_off h.und s.words.head (by decide) gu hgu e.symm) (by simpa using fun e => own_off h.und s.words.row (by decide) gu hgu e.symm), h.len, h.lo, h.low.trans (hP.below h.low.size (by simpa using hlo))⟩
  obtain ⟨r, hr⟩ := List.getElem?_of_mem hx
  have hrow := h.pends.row r _ x (List.getElem?_eq_getElem (by rw [← h.pends.len]; exact lt_of_get hr)) hr
  simpa using fun e => own_off h.und hrow (by decide) gu hgu e.symm
/-- one operation more: the document's record first -/
theorem AllS.grow {o : OpS} {bp : Nat} {ob ob' : Obj} (h : AllS W bc bk bw n m wc oc bs oc wd vp vu vd wr) (hb5 : Below wr.heap.size wr w5) (hr5 : Row w5 bp 126 (opL bk n o.k o.i o.y o.t o.s)) (hn : wr.heap.size ≤ bp) (ho : RightN o.k o.i o.y)
    (h6 : w6.ownsRow W.heap.size 70 5 vu' (bs.length + 1) (unCells oc ++ unL o)) (hg6 : (w5.alloc ob).grownBy w6 vu.ownBlock)
    (h7 : w7.ownsRow W.heap.size 62 1 vp' (bs.length + 1) (ptrs bs ++ [.pointer (some ⟨bp, 0, none⟩)])) (hg7 : (w6.alloc ob').grownBy w7 vp.ownBlock) :
    AllS W bc bk bw n m wc (oc ++ [o]) (bs ++ [bp]) (oc ++ [o]) wd vp' vu' vd w7 := by
  have h5 := h.on hb5
  have hp5 := h.pends.snoc hb5 hr5 hn h.low.size ho
  have hlow6 : Below W.heap.size W w6 := (h5.low.alloc h5.low.size ob).grown hg6 (by have := h5.low.size; simp; omega) (own_from h5.und)
  have hlow7 : Below W.heap.size W w7 := (hlow6.alloc hlow6.size ob').grown hg7 (by have := hlow6.size; simp; omega) (own_from h5.ps)
  have ps6 : w6.ownsRow W.heap.size 62 1 vp bs.length (ptrs bs) := (h5.ps.alloc ob).kept hg6 (own_apart h5.ps h5.und (by decide))
  have doc6 := (h5.doc.alloc ob).kept hg6 (own_apart h5.doc h5.und (by decide))
  have doc7 := (doc6.alloc ob').kept hg7 (own_apart doc6 ps6 (by decide))
  have pend7 : Pends w7 W.heap.size bk n (oc ++ [o]) (bs ++ [bp]) := by
    refine ⟨hp5.len, fun q x b hx hbq => ?_, hp5.nodup, hp5.lo, hp5.right⟩
    have hrow := hp5.row q x b hx hbq
    have r6 := (hrow.alloc ob).grown hg6 (own_not_in h5.und hrow (by decide))
    exact (r6.alloc ob').grown hg7 (own_not_in ps6 r6 (by decide))
  have sh : ∀ {b : Nat} {t : TypeId} {l : List Value}, Row w5 b t l → 70 ≠ t → 62 ≠ t → Row w7 b t l := fun hrow n1 n2 => by
    have r6 := (hrow.alloc ob).grown hg6 (own_not_in h5.und hrow n1)
    exact (r6.alloc ob').grown hg7 (own_not_in ps6 r6 n2)
  have s5 := h5.shard
  refine ⟨?_, ?_, doc7, pend7, ⟨sh s5.head (by decide) (by decide), ⟨sh s5.words.head (by decide) (by decide), sh s5.words.row (by decide) (by decide), s5.words.few, s5.words.ok⟩, s5.pos, s5.top⟩, h.len, h.lo, hlow7⟩
  · rw [List.length_append, List.length_singleton, ← ptrs_snoc]; exact h7
  · rw [List.length_append, List.length_singleton, ← unCells_snoc]; exact (h6.alloc ob').kept hg7 (own_apart h6 ps6 (by decide))
theorem AllS.get {o : OpS} (h : AllS W bc bk bw n m wc oc bs oc wd vp vu vd wr) (hq : q < bs.length) (ho : oc[q]? = some o) : ∃ b g c gu cu, bs[q]? = some b ∧ vp = .slice (some ⟨g, 0, none⟩) bs.length c ∧ vu = .slice (some ⟨gu, 0, none⟩) bs.length cu ∧ wr.cell? ⟨g, q, none⟩ = some (.pointer (some ⟨b, 0, none⟩)) ∧ Row wr b 126 (opL bk n o.k o.i o.y o.t o.s) ∧ g ≠ gu ∧ g < wr.heap.size ∧ gu < wr.heap.size := by
  obtain ⟨g, c, rfl, _, hl1⟩ := own_some h.ps (by omega)
  obtain ⟨gu, cu, rfl, _, hl2⟩ := own_some h.und (by omega)
  have h2 : bs[q]? = some bs[q] := List.getElem?_eq_getElem hq
  refine ⟨_, g, c, gu, cu, h2, rfl, rfl, own_cell h.ps (ptrs_get h2), h.pends.row q _ _ ho h2, ?_, hl1, hl2⟩
  rintro rfl
  rcases own_apart h.ps h.und (by decide) with e | e
  · cases e
  · exact e rfl
end
set_option maxRecDepth 100000
theorem rended_at {n : Nat} {k : Int} {i : Nat} {y : Int} {t : Nat} {s : Int} {r : Bool} (h : decide (many n k ≤ t) = r) (w : World) :
    Calls Try.prog 27 #[.int .i64 (n : Int), .agg #[.int .u8 k, .int .i64 (i : Int), .int .u64 y, .int .i64 (t : Int), .int .u64 s]] w fun e w' => e = .returned (.bool r) ∧ Below w.heap.size w w' := by
  subst h
  obtain ⟨mn, hmn⟩ : ∃ mn, many n k = mn := ⟨_, rfl⟩
  rw [hmn]
  have HMN := Lib.hid hmn
  have hB : Hid (∀ o, Below w.heap.size w (w.alloc o)) := Lib.hid (fun o => (Below.refl _ _).alloc (Nat.le_refl _) o)
  have hrw := Row.new w 70 [.int .u8 k, .int .i64 (i : Int), .int .u64 y, .int .i64 (t : Int), .int .u64 s]
  have HRW := Lib.hid hrw
  obtain ⟨u0, u1, u2, u3, u4⟩ := hrw.five5
  clear hmn hrw
  by_cases hle : mn ≤ t
  · have hle2 : (mn : Int) ≤ (t : Int) := by omega
    have HD : Hid (decide (mn ≤ t) = true) := Lib.hid (by simpa using hle)
    clear hle
    go_enter Try.func27, Try.ntmps27
    go_wp2
    go_region_held3 (fun w' => w'.cell? ⟨w.heap.size, 3, none⟩ = some (.int .i64 (t : Int)) ∧ w'.cell? ⟨w.heap.size, 0, none⟩ = some (.int .u8 k) ∧ w'.cell? ⟨w.heap.size, 1, none⟩ = some (.int .i64 (i : Int)) ∧ w'.cell? ⟨w.heap.size, 2, none⟩ = some (.int .u64 y))
      (first | (with_reducible exact ⟨y3, y0, y1, y2⟩) | (with_reducible exact ⟨u3, u0, u1, u2⟩) | go_keep)
      (first | (go_at_call 65; refine (rmany_at HMN.out _).mono ?_; rintro e w2 ⟨rfl, hb2⟩; have HB2 := Lib.hid hb2; have hr2 := HRW.out.drew.below hb2 HRW.out.lt; obtain ⟨y0, y1, y2, y3, y4⟩ := hr2.five5; clear hb2 hr2))
    all_goals
      go_wp2_with fail
      go_ret
      refine ⟨?_, (Below.drew (hB.out _)).trans (HB2.out.mono (by simp))⟩
      rw [HD.out]
      first | rfl | simp
  · have hle2 : (t : Int) < (mn : Int) := by omega
    have HD : Hid (decide (mn ≤ t) = false) := Lib.hid (by simp; omega)
    clear hle
    go_enter Try.func27, Try.ntmps27
    go_wp2
    go_region_held3 (fun w' => w'.cell? ⟨w.heap.size, 3, none⟩ = some (.int .i64 (t : Int)) ∧ w'.cell? ⟨w.heap.size, 0, none⟩ = some (.int .u8 k) ∧ w'.cell? ⟨w.heap.size, 1, none⟩ = some (.int .i64 (i : Int)) ∧ w'.cell? ⟨w.heap.size, 2, none⟩ = some (.int .u64 y))
      (first | (with_reducible exact ⟨y3, y0, y1, y2⟩) | (with_reducible exact ⟨u3, u0, u1, u2⟩) | go_keep)
      (first | (go_at_call 65; refine (rmany_at HMN.out _).mono ?_; rintro e w2 ⟨rfl, hb2⟩; have HB2 := Lib.hid hb2; have hr2 := HRW.out.drew.below hb2 HRW.out.lt; obtain ⟨y0, y1, y2, y3, y4⟩ := hr2.five5; clear hb2 hr2))
    all_goals
      go_wp2_with fail
      go_ret
      refine ⟨?_, (Below.drew (hB.out _)).trans (HB2.out.mono (by simp))⟩
      rw [HD.out]
      first | rfl | simp
end Go.Proofs.Ytcocegneegjcpaa
