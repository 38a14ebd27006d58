/- THE WALK of the law 'QuotaConserved'. -/
import Derived.Test.YtddlalljdecdoaaBn
import Derived.Test.YtddlalljdecdoaaEx
import Derived.Deep.LoopGhost
import Derived.Deep.CutBlock
namespace Go.Proofs.Ytddlalljdecdoaa
open Go Go.RowKit
set_option maxRecDepth 100000
set_option maxHeartbeats 3200000
theorem QuoM.far {w : World} {bq bk bw : Nat} {ba : Int} {ws : List Int} (h : QuoM w bq bk bw ba ws) {p : Addr} (h1 : ¬ p.block = bq) (h2 : ¬ p.block = bk) (h3 : ¬ p.block = bw) (u : Value) : QuoM (w.setCell p u) bq bk bw ba ws := ⟨h.head.far h1 u, h.words.far h2 h3 u, h.least, h.top, h.lowb, h.topb⟩
theorem KindsB.off {W wr w1 : World} {bq bk bw n g : Nat} {ba : Int} {ws : List Int} {os : List OpB} {bs : List Nat} {vp vk : Value} {t : TypeId} {l : List Value} (h : KindsB W bq bk bw ba n ws os bs vp vk wr) (hg : Row wr g t l) (hlo : W.heap.size ≤ g) (hP : Part [g] wr w1)
    (n1 : 71 ≠ t) (n2 : 81 ≠ t) (n3 : 87 ≠ t) (n4 : 32 ≠ t) (n5 : 75 ≠ t) (n6 : 37 ≠ t) : KindsB W bq bk bw ba n ws os bs vp vk w1 :=
  ⟨h.many.off hg hlo hP n1 n2 n3 n4 n5, own_part h.ks hP (fun q hq => by simpa using own_off h.ks hg n6 q hq)⟩
/-- a quota, operations on it, what each has in hand -/
structure ConsB (W : World) (bq bk bw : Nat) (ba : Int) (n : Nat) (ws : List Int) (os : List OpB) (bs : List Nat) (vp vk : Value) (gh : Nat) (limit : Int) (wr : World) : Prop where
  kinds : KindsB W bq bk bw ba n ws os bs vp vk wr
  hs : Row wr gh 39 (u64s (os.map handC))
  glo : W.heap.size ≤ gh
  okh : ∀ o ∈ os, HandOk o
  sum : ws.sum + (os.map handC).sum + (os.map takenC).sum = limit
  lim : 0 ≤ limit ∧ limit ≤ 1099511627776
section
variable {W wr w1 w2 : World} {bq bk bw n gh : Nat} {ba limit : Int} {ws : List Int} {os : List OpB} {bs : List Nat} {vp vk : Value}
theorem ConsB.on (h : ConsB W bq bk bw ba n ws os bs vp vk gh limit wr) (hb : Below wr.heap.size wr w1) : ConsB W bq bk bw ba n ws os bs vp vk gh limit w1 := ⟨h.kinds.on hb, h.hs.below hb h.hs.lt, h.glo, h.okh, h.sum, h.lim⟩
theorem ConsB.low (h : ConsB W bq bk bw ba n ws os bs vp vk gh limit wr) : Below W.heap.size W wr := h.kinds.many.low
theorem hands_pos {os : List OpB} (h : ∀ o ∈ os, HandOk o) : ∀ x ∈ os.map handC, 0 ≤ x := fun x hx => by
  obtain ⟨o, ho, rfl⟩ := List.mem_map.1 hx
  exact handC_pos (h o ho)
theorem takens_pos {os : List OpB} (h : ∀ o ∈ os, HandOk o) : ∀ x ∈ os.map takenC, 0 ≤ x := fun x hx => by
  obtain ⟨o, ho, rfl⟩ := List.mem_map.1 hx
  exact (takenC_pos (h o ho)).1
theorem ConsB.bounds (h : ConsB W bq bk bw ba n ws os bs vp vk gh limit wr) : 0 ≤ ws.sum ∧ 0 ≤ (os.map handC).sum ∧ 0 ≤ (os.map takenC).sum :=
  ⟨sum_pos (fun x hx => (h.kinds.many.one.quo.words.ok x hx).1), sum_pos (hands_pos h.okh), sum_pos (takens_pos h.okh)⟩
/-- one of them has stepped, and its hand is noted -/
theorem ConsB.next {q b : Nat} {o : OpB} {e : Ending} (h : ConsB W bq bk bw ba n ws os bs vp vk gh limit wr) (ho : os[q]? = some o) (hb : bs[q]? = some b) (h9 : ¬ o.ph = 9) (hs : SteppedO wr bq bk bw b ba ws o e w1)
    (hR : Row w2 gh 39 (u64s ((os.set q (stepB ba ws o)).map handC))) (hP : Part [gh] w1 w2) : ConsB W bq bk bw ba n (stepBW ba ws o) (os.set q (stepB ba ws o)) bs vp vk gh limit w2 := by
  have hrow := h.kinds.many.pends.row q o b ho hb
  have hk := h.kinds.step ho hb hs
  have hg1 : Row w1 gh 39 (u64s (os.map handC)) := h.hs.part hs.2.2.2 (by simp; exact ⟨h.hs.ne h.kinds.many.one.quo.words.row (by decide), h.hs.ne hrow (by decide)⟩)
  have hok := h.kinds.many.pends.ok o (List.mem_of_getElem? ho)
  have hho := h.okh o (List.mem_of_getElem? ho)
  have hu := h.kinds.many.one.quo.words.ok
  have hba := h.kinds.many.one.quo.lowb
  rw [← h.kinds.many.one.len] at hok
  have hb3 := h.bounds
  have hl := h.lim
  have hsm := h.sum
  have hle : handC o ≤ (os.map handC).sum := le_sum0 (hands_pos h.okh) (i := q) (by rw [List.getElem?_map, ho]; rfl)
  have hst := step_sum hok h9 hho hu (by omega) hba
  have g1 : (os.map handC)[q]? = some (handC o) := by rw [List.getElem?_map, ho]; rfl
  have g2 : (os.map takenC)[q]? = some (takenC o) := by rw [List.getElem?_map, ho]; rfl
  refine ⟨hk.off hg1 h.glo hP (by decide) (by decide) (by decide) (by decide) (by decide) (by decide), hR, h.glo, fun x hx => ?_, ?_, h.lim⟩
  · rcases List.mem_or_eq_of_mem_set hx with hx | rfl
    · exact h.okh x hx
    · exact hho.step hok h9 hu hba
  · rw [List.map_set, List.map_set, sum_set g1, sum_set g2]
    omega
end
theorem take_sum_le {l : List Int} (h : ∀ x ∈ l, 0 ≤ x) (j : Nat) : (l.take j).sum ≤ l.sum ∧ 0 ≤ (l.take j).sum := by
  have e : l.sum = (l.take j).sum + (l.drop j).sum := by rw [← List.sum_append, List.take_append_drop]
  have h1 := sum_pos (ws := l.drop j) (fun x hx => h x (List.mem_of_mem_drop hx))
  have h2 := sum_pos (ws := l.take j) (fun x hx => h x (List.mem_of_mem_take hx))
  omega
theorem take_next {l : List Int} {j : Nat} {x : Int} (h : l[j]? = some x) : (l.take (j + 1)).sum = (l.take j).sum + x := by rw [List.take_add_one, h]; simp
theorem pick_noughts (n : Nat) (ops : List (Int × Int)) : (pickB n ops).map handC = List.replicate (pickB n ops).length 0 ∧ (pickB n ops).map takenC = List.replicate (pickB n ops).length 0 ∧ ∀ o ∈ pickB n ops, HandOk o := by
  have key : ∀ o ∈ pickB n ops, handC o = 0 ∧ takenC o = 0 ∧ HandOk o := fun o ho => by
    unfold pickB at ho
    obtain ⟨op, _, h⟩ := List.mem_filterMap.1 ho
    split at h
    · cases h; exact ⟨handC_new _ _, takenC_new _ _, HandOk.new _ _⟩
    · cases h
  refine ⟨?_, ?_, fun o ho => (key o ho).2.2⟩
  · apply List.ext_getElem (by simp)
    intro i h1 h2
    simp
    exact (key _ (List.getElem_mem _)).1
  · apply List.ext_getElem (by simp)
    intro i h1 h2
    simp
    exact (key _ (List.getElem_mem _)).2.1
theorem sum_noughts (m : Nat) : (List.replicate m (0 : Int)).sum = 0 := by
  induction m with
  | zero => rfl
  | succ m ih => rw [List.replicate_succ]; simp [ih]
theorem start_sum (limit : Int) (n : Nat) : (startW limit n).sum = limit := by unfold startW; rw [List.sum_cons, sum_noughts]; omega
theorem set_same {l : List Int} {q : Nat} {x : Int} (h : l[q]? = some x) : l.set q x = l := by
  apply List.ext_getElem?
  intro i
  by_cases e : q = i
  · subst e; rw [List.getElem?_set_self (List.getElem?_eq_some_iff.1 h).1, h]
  · rw [List.getElem?_set_ne e]
theorem own_cell_lt {w : World} {base n c g size : Nat} {e : TypeId} {xs : List Value} (h : w.ownsRow base e size (.slice (some ⟨g, 0, none⟩) n c) n xs) (_hn : 0 < n) : g < w.heap.size := by
  rcases h.2 with ⟨hv, _⟩ | ⟨g', _, cur, hv, _, hh, _⟩
  · cases hv
  · cases hv; exact lt_of_block hh
theorem didV_five (x0 x1 x2 x3 : Int) (x4 : Bool) : didV (x0, x1, x2, x3, x4) = .agg #[.int .u8 x0, .int .i64 x1, .int .u64 x2, .int .u64 x3, .bool x4] := rfl
theorem step_cat2 {ba : Int} {ws : List Int} {o : OpB} (ho : OkB ws.length o) (hn9 : ¬ o.ph = 9) (hu : ∀ x ∈ ws, U64 x) (hb : 1 ≤ ba) (hbt : ba ≤ 1048576) {x0 x1 x2 x3 : Int} {x4 la : Bool} (hd : didB ba ws o = (x0, x1, x2, x3, x4)) (hla : decide ((stepB ba ws o).ph = 9) = la) :
    (o.k = 1 ∧ (x0 == 5) = true ∧ (x1 == 0) = true ∧ x4 = true ∧ ∃ v, IntKind.u64.wrap (x2 - x3) = v ∧ 1 ≤ v ∧ v ≤ ba ∧ (la = false → v = handC (stepB ba ws o)))
    ∨ (o.k = 1 ∧ (x0 == 5) = false ∧ (la = false → handC o = handC (stepB ba ws o)))
    ∨ (o.k = 1 ∧ (x0 == 5) = true ∧ (x1 == 0) = false ∧ (la = false → handC o = handC (stepB ba ws o)))
    ∨ (o.k = 1 ∧ (x0 == 5) = true ∧ (x1 == 0) = true ∧ x4 = false ∧ (la = false → handC o = handC (stepB ba ws o)))
    ∨ (o.k = 2 ∧ (x0 == 4) = true ∧ (la = false → x2 = handC (stepB ba ws o)))
    ∨ (o.k = 2 ∧ (x0 == 4) = false ∧ (la = false → handC o = handC (stepB ba ws o)))
    ∨ (o.k = 3 ∧ (la = false → handC o = handC (stepB ba ws o))) := by
  have no : (stepB ba ws o).ph = 9 → ∀ P : Prop, la = false → P := fun h P e => by rw [← hla, h] at e; simp at e
  rcases step_cat ho hn9 hu hb hbt hd with ⟨hk, f0, f1, f4, hp, hv, hv1, hv2⟩ | ⟨hk, f0, f1, f4, hp, hv⟩ | ⟨hk, f0, hp⟩ | ⟨hk, f0, f1, hp⟩ | ⟨hk, f0, hp, hh⟩ | ⟨hk, f0, f1, hp, hh⟩ | ⟨hk, f0, f1, f4, hp, hh⟩ | ⟨hk, f0, hp, hv⟩ | ⟨hk, f0, hp⟩ | ⟨hk, f0, hp⟩ | ⟨hk, hp⟩ | ⟨hk, hp, hh⟩
  · exact .inl ⟨hk, f0, f1, f4, _, hv, hv1, hv2, fun _ => rfl⟩
  · exact .inl ⟨hk, f0, f1, f4, _, hv, by omega, hb, no hp _⟩
  · exact .inr (.inl ⟨hk, f0, no hp _⟩)
  · exact .inr (.inr (.inl ⟨hk, f0, f1, no hp _⟩))
  · exact .inr (.inl ⟨hk, f0, fun _ => hh.symm⟩)
  · exact .inr (.inr (.inl ⟨hk, f0, f1, fun _ => hh.symm⟩))
  · exact .inr (.inr (.inr (.inl ⟨hk, f0, f1, f4, fun _ => hh.symm⟩)))
  · exact .inr (.inr (.inr (.inr (.inl ⟨hk, f0, fun _ => hv⟩))))
  · exact .inr (.inr (.inr (.inr (.inl ⟨hk, f0, no hp _⟩))))
  · exact .inr (.inr (.inr (.inr (.inr (.inl ⟨hk, f0, no hp _⟩)))))
  · exact .inr (.inr (.inr (.inr (.inr (.inr ⟨hk, no hp _⟩)))))
  · exact .inr (.inr (.inr (.inr (.inr (.inr ⟨hk, fun _ => hh.symm⟩)))))
theorem cons_facts {W wr w5 : World} {bq bk bw n gh g gk q b c ck : Nat} {ba limit kk : Int} {ws : List Int} {os : List OpB} {bs : List Nat} {o : OpB} {e : Ending} (hC : ConsB W bq bk bw ba n ws os bs (.slice (some ⟨g, 0, none⟩) bs.length c) (.slice (some ⟨gk, 0, none⟩) bs.length ck) gh limit wr)
    (ho : os[q]? = some o) (hb : bs[q]? = some b) (hR : Row wr b 75 (rowB bq o)) (hk : o.k = kk) (hs : SteppedO wr bq bk bw b ba ws o e w5) :
    QuoM w5 bq bk bw ba (stepBW ba ws o) ∧ Row w5 b 75 (rowB bq (stepB ba ws o)) ∧ Row w5 gh 39 (u64s (os.map handC)) ∧ ¬ gh = bq ∧ ¬ gh = bk ∧ ¬ gh = bw ∧ ¬ gh = b ∧ w5.cell? ⟨gh, q, none⟩ = some (.int .u64 (handC o)) ∧ w5.cell? ⟨gk, q * 2, none⟩ = some (.int .u8 kk) ∧ w5.cell? ⟨g, q, none⟩ = some (.pointer (some ⟨b, 0, none⟩))
    ∧ ¬ gk = gh ∧ ¬ gh = gk ∧ ¬ g = gh ∧ ¬ gh = g ∧ ¬ gh = w5.heap.size ∧ ¬ w5.heap.size = gh ∧ gh < w5.heap.size ∧ gk < w5.heap.size ∧ g < w5.heap.size ∧ (∀ i, w5.frozen? ⟨gh, i, none⟩ = false) := by
  obtain ⟨he, hq5, hr5, hp5⟩ := id hs
  have hk5 := hC.kinds.step ho hb hs
  have hg5 : Row w5 gh 39 (u64s (os.map handC)) := hC.hs.part hp5 (by simp; exact ⟨hC.hs.ne hC.kinds.many.one.quo.words.row (by decide), hC.hs.ne hR (by decide)⟩)
  have hbl : 0 < bs.length := by have := lt_of_get hb; omega
  have kget := qopCells_get (os := os.set q (stepB ba ws o)) (q := q) (o := stepB ba ws o) (List.getElem?_set_self (lt_of_get ho))
  rw [(stepB_same ba ws o).1, (stepB_same ba ws o).2, hk] at kget
  have m1 : ¬ gk = gh := fun e => own_off hk5.ks hg5 (by decide) gk rfl e
  have m3 : ¬ g = gh := fun e => own_off hk5.many.ps hg5 (by decide) g rfl e
  have hlt := hg5.lt
  refine ⟨hq5, hr5, hg5, hg5.ne hq5.head (by decide), hg5.ne hq5.words.head (by decide), hg5.ne hq5.words.row (by decide), hg5.ne hr5 (by decide), ?_, own_cell hk5.ks kget.1, own_cell hk5.many.ps (ptrs_get hb), m1, fun e => m1 e.symm, m3, fun e => m3 e.symm, by omega, by omega, hlt, own_cell_lt hk5.ks hbl, own_cell_lt hk5.many.ps hbl, hg5.free⟩
  rw [hg5.cell, u64s_get, List.getElem?_map, ho]
  rfl
theorem conserved_no {limit ba n : Int} (hf : ¬ FitsB limit ba n) {A B : Option Addr} {len cap len' cap' : Nat} (W : World) :
    Calls Try.prog 6 #[.int .i64 limit, .int .i64 ba, .int .i64 n, .slice A len cap, .slice B len' cap'] W fun e w' => e = .returned (.bool true) ∧ Below W.heap.size W w' := by
  have HF := Lib.hid hf
  clear hf
  go_enter Try.func6, Try.ntmps6
  go_wp2_with (first
    | (go_at_call 12; refine (begins_any _).mono ?_; rintro e w1 ⟨rfl, hb⟩; have HB := Lib.hid hb; clear hb)
    | (go_at_call 10; refine (qnew_no HF.out _).mono ?_; rintro e wx ⟨rfl, rfl⟩))
  go_ret
  exact ⟨rfl, HB.out⟩
set_option maxHeartbeats 25600000
theorem conserved_yes {limit ba : Int} {n : Nat} (hf : FitsB limit ba (n : Int)) {A B : Option Addr} {cap cap' : Nat} {ops : List (Int × Int)} {xs : List Int} (W : World) (hE : Ext2 .u8 .i64 W A ops) (hr : ops.length * 16 ≤ 140737488351232) (hX : Ext .i64 W B xs) (hr' : xs.length * 8 ≤ 140737488351232) :
    Calls Try.prog 6 #[.int .i64 limit, .int .i64 ba, .int .i64 (n : Int), .slice A ops.length cap, .slice B xs.length cap'] W fun e w' => e = .returned (.bool true) ∧ Below W.heap.size W w' := by
  obtain ⟨ip, hip, hp0, hp1, hp2⟩ := info_parts infoP
  obtain ⟨it, hit, ht0, ht1, ht2⟩ := info_parts infoQO
  obtain ⟨iu, hiu, hu0, hu1, hu2⟩ := info_parts info29
  have HF := Lib.hid hf
  have HN : Hid (1 ≤ n ∧ n ≤ 64) := Lib.hid (by obtain ⟨_, _, _, _, h5, h6⟩ := hf; omega)
  have hwl : IntKind.u64.wrap limit = limit := by obtain ⟨_, _, _⟩ := hf; rw [IntKind.wrap_u64]; omega
  have hwb : IntKind.u64.wrap ba = ba := by obtain ⟨_, _, _, _, _⟩ := hf; rw [IntKind.wrap_u64]; omega
  have hwn : IntKind.i64.wrap ((n : Int) + 1) = ((n + 1 : Nat) : Int) := by have := HN.out; rw [IntKind.wrap_i64]; omega
  have HE := Lib.hid hE
  have HX := Lib.hid hX
  clear hf hE hX
  go_enter Try.func6, Try.ntmps6
  go_wp2_with (first
    | (go_at_call 12; refine (begins_any _).mono ?_; rintro e w0 ⟨rfl, hb⟩; have HB0 := Lib.hid hb; clear hb)
    | (go_at_call 10; refine (qnew_yes HF.out _).mono ?_; rintro e w1 ⟨bq, bk, bw, rfl, hc, hk, hw, hS, hb⟩; have HO1 := Lib.hid (OneB.start (n := n) HB0.out hw hS (by simp [startW]) hb); clear hc hk hw hS hb))
  have hxl : xs.length ≤ 17592186044160 := by omega
  have hol : ops.length ≤ 8796093021952 := by omega
  go_loopw [13, 14, 15] (fun vp vk u wr => ∃ j : Nat, j ≤ ops.length ∧ u = .int .i64 j ∧ ∃ bs, KindsB W bq bk bw ba n (startW limit n) (pickB n (ops.take j)) bs vp vk wr) (fun _ _ u _ => ops.length - (intOf u).toNat)
  case atStart => exact ⟨0, Nat.zero_le _, rfl, [], ManyB.nil HO1.out, ⟨rfl, .inl ⟨rfl, rfl⟩⟩⟩
  case round =>
    obtain ⟨j, hj, rfl, bs, hM⟩ := hrel
    have HK := Lib.hid hM
    clear hM HO1 HB0
    by_cases hlt : j < ops.length
    · obtain ⟨⟨k, i⟩, hop⟩ : ∃ op, ops[j]? = some op := ⟨ops[j], List.getElem?_eq_getElem hlt⟩
      obtain ⟨b', o, rfl, hbW, e0, e1⟩ := HE.out j _ hop
      dsimp only at e0 e1
      have hb' : b' < wr.heap.size := Nat.lt_of_lt_of_le hbW HK.out.many.low.size
      have q0 := (HK.out.many.low.cell (p := ⟨b', o + j * 2, none⟩) hbW).trans e0
      have q1 := (HK.out.many.low.cell (p := ⟨b', o + j * 2 + 1, none⟩) hbW).trans e1
      have E0 := Lib.hid e0
      have E1 := Lib.hid e1
      have HBW := Lib.hid hbW
      have hlt2 : (j : Int) < (ops.length : Int) := by omega
      have HT := Lib.hid (pickB_take n ops hop)
      have HPL := Lib.hid (pickB_length n (ops.take j))
      clear hop hbW e0 e1
      by_cases hR : rightB n k i = true
      · obtain ⟨wk, rfl, hfi⟩ := right_cases hR
        have HR := Lib.hid hR
        have HRT : Hid (FineB n k wk) := Lib.hid hfi
        clear hR hfi
        have HLL : Hid (bs.length + 1 ≤ ops.length) := Lib.hid (by have h1 := HK.out.many.pends.len; have h2 := HPL.out; rw [List.length_take] at h2; omega)
        have H3 : Hid (bs.length + 1 ≤ maxLen) := Lib.hid (by have := HLL.out; unfold maxLen; omega)
        have H4 : Hid ((bs.length + 1) * 8 ≤ 140737488355328) := Lib.hid (by have := HLL.out; omega)
        have H6 : Hid ((bs.length + 1) * 16 ≤ 140737488355328) := Lib.hid (by have := HLL.out; omega)
        go_wp2_with (first
          | (go_at_call 13; refine (bstart_op HK.out.many.one.quo HK.out.many.one.len HRT.out).mono ?_; rintro e w5 ⟨bp, rfl, hn5, hr5, hb5⟩; have HB5 := Lib.hid hb5; have HN5 := Lib.hid hn5; have HR5 := Lib.hid hr5; have HK5 := Lib.hid (HK.out.on hb5); have H5 : Hid (W.heap.size ≤ (w5.alloc (.cells #[.pointer (some ⟨bp, 0, none⟩)] 32)).heap.size) := Lib.hid (by have := HK5.out.many.low.size; simp; omega); clear hb5 hn5 hr5)
          | (at_builtin; refine wpList_append_own _ rfl _ _ 31 rfl W.heap.size 32 ip (.pointer none) 1 8 Try.underlying31 hip hp0 hp1 hp2 rfl (by decide) _ _ _ rfl (HK5.out.many.ps.alloc _) ⟨w5.heap.size, 0, none⟩ 1 1 [.pointer (some ⟨bp, 0, none⟩)] rfl rfl (new_cells _ _ _) (one_ptr _) H3.out H4.out H5.out ?_; intro vp' w6 hown6 hgr6 _; have HO6 := Lib.hid hown6; have HG6 := Lib.hid hgr6; have hlow6 := (HK5.out.many.low.alloc HK5.out.many.low.size _).grown hgr6 H5.out (own_from HK5.out.many.ps); have g0 := (hlow6.cell (p := ⟨b', o + j * 2, none⟩) HBW.out).trans E0.out; have g1 := (hlow6.cell (p := ⟨b', o + j * 2 + 1, none⟩) HBW.out).trans E1.out; have KS6 := Lib.hid ((HK5.out.ks.alloc _).kept hgr6 (own_apart HK5.out.ks HK5.out.many.ps (by decide))); have H7 : Hid (W.heap.size ≤ (w6.alloc (.cells #[.int .u8 k, .int .i64 (wk : Int)] 37)).heap.size) := Lib.hid (by have := hlow6.size; simp; omega); clear hown6 hgr6 hlow6)
          | (at_builtin; refine wpList_append_own _ rfl _ _ 22 rfl W.heap.size 37 it (.agg #[.int .u8 0, .int .i64 0]) 2 16 Try.underlying22 hit ht0 ht1 ht2 rfl (by decide) _ _ _ rfl (KS6.out.alloc _) ⟨w6.heap.size, 0, none⟩ 1 1 [.int .u8 k, .int .i64 (wk : Int)] rfl rfl (new_cells _ _ _) (two_nums _ _) H3.out H6.out H7.out ?_; intro vk' w7 hown7 hgr7 _; have HO7 := Lib.hid hown7; have HG7 := Lib.hid hgr7; clear hown7 hgr7))
        go_roundw
        case rel => exact ⟨j + 1, by omega, by go_num, bs ++ [bp], by rw [HT.out]; simp only [HR.out, if_true, Int.toNat_natCast]; exact HK.out.grow HB5.out HR5.out HN5.out HRT.out HO6.out HG6.out HO7.out HG7.out⟩
        case measure => simp [intOf]; omega
      · have HR : Hid (rightB n k i = false) := Lib.hid (by simpa using hR)
        clear hR
        go_wp2_with (go_at_call 13; refine (bstart_no HK.out.many.one.quo HK.out.many.one.len HR.out).mono ?_; rintro e w5 ⟨rfl, hb5⟩; have HK5 := Lib.hid (HK.out.on hb5); clear hb5)
        go_roundw
        case rel => exact ⟨j + 1, by omega, by go_num, bs, by rw [HT.out]; simp only [HR.out]; rw [if_neg (by simp), List.append_nil]; exact HK5.out⟩
        case measure => simp [intOf]; omega
    · obtain rfl : j = ops.length := by omega
      have HLB : Hid (bs.length = (pickB n (ops.take ops.length)).length) := Lib.hid HK.out.many.pends.len
      have HLL : Hid (bs.length ≤ ops.length) := Lib.hid (by have h1 := HK.out.many.pends.len; have h2 := pickB_length n (ops.take ops.length); rw [List.length_take] at h2; omega)
      have hnl : bs.length ≤ 8796093021952 := by have := HLL.out; omega
      have hmb : iu.bytes * bs.length ≤ 281474976710656 := by rw [hu2]; omega
      have hmm : bs.length ≤ maxLen := by unfold maxLen; omega
      obtain ⟨pa, pc, rfl⟩ := own_form HK.out.many.ps
      obtain ⟨ka, kc, rfl⟩ := own_form HK.out.ks
      go_wp2_with (at_make; refine wpList_make_full _ rfl _ _ 42 rfl W.heap.size 39 iu (.int .u64 0) 1 Try.underlying42 hiu hu0 hu1 .i64 .i64 bs.length bs.length bs.length rfl rfl rfl rfl hmb hmm HK.out.many.low.size ?_; intro w3 hown hgr; have hrw := row_of_full hown; rw [noughts29] at hrw; have HB3 : Hid (Below wr.heap.size wr w3) := Lib.hid ((Below.refl _ _).grown hgr (Nat.le_refl _) (by simp)); have HC1 : Hid (ConsB W bq bk bw ba n (startW limit n) (pickB n (ops.take ops.length)) bs (.slice pa bs.length pc) (.slice ka bs.length kc) wr.heap.size limit w3) := Lib.hid ⟨HK.out.on HB3.out, (by rw [(pick_noughts _ _).1, ← HLB.out]; exact hrw), HK.out.many.low.size, (pick_noughts _ _).2.2, (by rw [(pick_noughts _ _).1, (pick_noughts _ _).2.1, sum_noughts, start_sum]; omega), (by obtain ⟨f1, f2, _⟩ := HF.out; exact ⟨f1, f2⟩)⟩; clear hown hgr hrw)
      have HT0 : Hid ((pickB n (ops.take ops.length)).map takenC = List.replicate (pickB n (ops.take ops.length)).length 0) := Lib.hid (pick_noughts _ _).2.1
      obtain ⟨gh, hgh⟩ : ∃ gh, wr.heap.size = gh := ⟨_, rfl⟩
      rw [hgh] at HC1 ⊢
      clear HK hgh
      go_loopw [19, 20] (fun tk u wr => ∃ j : Nat, j ≤ xs.length ∧ u = .int .i64 j ∧ ∃ ws os, tk = .int .u64 (os.map takenC).sum ∧ ConsB W bq bk bw ba n ws os bs (.slice pa bs.length pc) (.slice ka bs.length kc) gh limit wr) (fun _ u _ => xs.length - (intOf u).toNat)
      case atStart => exact ⟨0, Nat.zero_le _, rfl, _, _, by rw [HT0.out, sum_noughts], HC1.out⟩
      case round =>
        obtain ⟨j, hj, rfl, ws, os, rfl, hC⟩ := hrel
        have HC := Lib.hid hC
        clear hC HC1
        by_cases hlt : j < xs.length
        · obtain ⟨k, hk⟩ : ∃ k, xs[j]? = some k := ⟨xs[j], List.getElem?_eq_getElem hlt⟩
          obtain ⟨b', o', rfl, hlt', q0⟩ := (HX.out.on HC.out.low) j _ hk
          have hlt2 : (j : Int) < (xs.length : Int) := by omega
          clear hk
          by_cases hk0 : k < 0
          · have hd : decide (k < 0) = true := by simpa using hk0
            go_wp2
            go_roundw
            case rel => exact ⟨j + 1, by omega, by go_num, _, _, rfl, HC.out⟩
            case measure => simp [intOf]; omega
          have hd0 : decide (k < 0) = false := by simpa using hk0
          by_cases hkn : (bs.length : Int) ≤ k
          · have hd : decide ((bs.length : Int) ≤ k) = true := by simpa using hkn
            go_wp2
            go_roundw
            case rel => exact ⟨j + 1, by omega, by go_num, _, _, rfl, HC.out⟩
            case measure => simp [intOf]; omega
          obtain ⟨q, rfl⟩ := Int.eq_ofNat_of_zero_le (show 0 ≤ k by omega)
          have hd1 : decide ((bs.length : Int) ≤ (q : Int)) = false := by simp; omega
          have hqn : q < bs.length := by omega
          obtain ⟨o, b, g, c, ho, hb, hv, hc, hR, hok⟩ := HC.out.kinds.many.get hqn
          cases hv
          obtain ⟨gk, ck, hvk, _, hkl⟩ := own_some HC.out.kinds.ks (by omega)
          cases hvk
          have hq2 : (q : Int) < (bs.length : Int) := by omega
          have hok1 : OkB ws.length o := by rw [HC.out.kinds.many.one.len]; exact hok
          have HOo := Lib.hid ho
          have HBb := Lib.hid hb
          have HRr := Lib.hid hR
          have HOK := Lib.hid hok1
          by_cases h9 : o.ph = 9
          · have HDn : Hid (decide (o.ph = 9) = true) := Lib.hid (by rw [h9]; rfl)
            clear ho hb hR hok hok1
            go_wp2_with (go_at_call 18; (with_reducible refine (bdone_op HRr.out).mono ?_); rw [HDn.out]; rintro e wx ⟨rfl, rfl⟩)
            go_roundw
            case rel => exact ⟨j + 1, by omega, by go_num, _, _, rfl, HC.out⟩
            case measure => simp [intOf]; omega
          · have HDn : Hid (decide (o.ph = 9) = false) := Lib.hid (by simpa using h9)
            obtain ⟨⟨x0, x1, x2, x3, x4⟩, hdid⟩ : ∃ d, didB ba ws o = d := ⟨_, rfl⟩
            obtain ⟨la, hla⟩ : ∃ l, decide ((stepB ba ws o).ph = 9) = l := ⟨_, rfl⟩
            have hcat := step_cat2 hok1 h9 HC.out.kinds.many.one.quo.words.ok HC.out.kinds.many.one.quo.lowb HC.out.kinds.many.one.quo.topb hdid hla
            have HDID := Lib.hid hdid
            have HH9 := Lib.hid h9
            have hho := HC.out.okh o (List.mem_of_getElem? ho)
            have hho' := HandOk.step hok1 h9 hho HC.out.kinds.many.one.quo.words.ok HC.out.kinds.many.one.quo.lowb
            have HHO' := Lib.hid hho'
            obtain ⟨tk, htk⟩ : ∃ t, (os.map takenC).sum = t := ⟨_, rfl⟩
            have hT1 : ((os.set q (stepB ba ws o)).map takenC).sum = tk + takenC (stepB ba ws o) := by
              have e0 : takenC o = 0 := by unfold takenC; split <;> simp [h9]
              have g2 : (os.map takenC)[q]? = some (takenC o) := by rw [List.getElem?_map, ho]; rfl
              rw [List.map_set, sum_set g2, htk, e0]; omega
            have hbd := HC.out.bounds
            have hlm := HC.out.lim
            have hsm := HC.out.sum
            have HTK : Hid (0 ≤ tk ∧ tk ≤ 1099511627776) := Lib.hid (by rw [← htk]; omega)
            have HT1 := Lib.hid hT1
            rw [htk]
            have HZQ : Hid ((os.map handC)[q]? = some (handC o)) := Lib.hid (by rw [List.getElem?_map, ho]; rfl)
            have HQL : Hid (q < os.length) := Lib.hid (lt_of_get ho)
            have HBN := Lib.hid hR
            have HLA := Lib.hid hla
            clear hla
            clear ho hb hR hok hok1 hho hho' hdid hT1 hbd hlm hsm htk
            go_upto_block 4 with (first
              | (go_at_call 18; (with_reducible refine (bdone_op HRr.out).mono ?_); rw [HDn.out]; rintro e wx ⟨rfl, rfl⟩)
              | (go_at_call 16; (with_reducible refine (bstep_op HC.out.kinds.many.one.quo HRr.out HOK.out).mono ?_); intro e w5 hs; have HS := Lib.hid hs; have he := hs.1; subst he; rw [HDID.out, HLA.out, didV_five]; obtain ⟨hq5, hr5, hg5, n1, n2, n3, n5, gcell, kc0, pc0, m1, m2, m3, m4, m5, m6, glt, gkl, gpl, gfree⟩ := cons_facts HC.out HOo.out HBb.out HBN.out rfl hs; have HQ5 := Lib.hid hq5; have HR5 := Lib.hid hr5; have HG5 := Lib.hid hg5; have N1 := Lib.hid n1; have N2 := Lib.hid n2; have N3 := Lib.hid n3; have N5 := Lib.hid n5; clear hs hq5 hr5 hg5 n1 n2 n3 n5))
            have HKC := Lib.hid kc0
            have HCAT := Lib.hid hcat
            clear hcat kc0
            go_cut [19] (fun t wx => t = .int .u64 tk ∧ ∃ v : Int, Row wx gh 39 (u64s ((os.map handC).set q v)) ∧ Part [gh] w5 wx ∧ (la = false → v = handC (stepB ba ws o)))
            case first => as_aux_lemma =>
              have kc0 := HKC.out
              rcases HCAT.out with ⟨hk, f0, f1, f4, y, hv, hv1, hv2, hi⟩ | ⟨hk, f0, hi⟩ | ⟨hk, f0, f1, hi⟩ | ⟨hk, f0, f1, f4, hi⟩ | ⟨hk, f0, hi⟩ | ⟨hk, f0, hi⟩ | ⟨hk, hi⟩
              · rw [hk] at kc0
                have HI := Lib.hid hi
                have hy1 : decide (y < 1) = false := by simp; omega
                have hy2 : decide (ba < y) = false := by simp; omega
                clear hv1 hv2
                clear HCAT HKC hi
                go_wp2
                go_meet
                exact ⟨rfl, y, Row.of_eq (l := (u64s (os.map handC)).set q (.int .u64 y)) (by repeat (first | (with_reducible exact HG5.out) | (with_reducible refine Row.set ?_ _ _) | (with_reducible refine Row.alloc ?_ _) | (with_reducible refine Row.drew ?_))) (by rw [u64s_set]), by repeat (first | (with_reducible exact Part.refl _ _) | refine Part.set ?_ (by simp) _ | (with_reducible refine Part.alloc ?_ _) | (with_reducible refine Part.drew ?_)), HI.out⟩
              · rw [hk] at kc0
                have HI := Lib.hid hi
                clear HCAT HKC hi
                go_wp2
                go_meet
                exact ⟨rfl, handC o, Row.of_eq (l := u64s (os.map handC)) (by repeat (first | (with_reducible exact HG5.out) | (with_reducible refine Row.set ?_ _ _) | (with_reducible refine Row.alloc ?_ _) | (with_reducible refine Row.drew ?_))) (by rw [set_same HZQ.out]), by repeat (first | (with_reducible exact Part.refl _ _) | refine Part.set ?_ (by simp) _ | (with_reducible refine Part.alloc ?_ _) | (with_reducible refine Part.drew ?_)), HI.out⟩
              · rw [hk] at kc0
                have HI := Lib.hid hi
                clear HCAT HKC hi
                go_wp2
                go_meet
                exact ⟨rfl, handC o, Row.of_eq (l := u64s (os.map handC)) (by repeat (first | (with_reducible exact HG5.out) | (with_reducible refine Row.set ?_ _ _) | (with_reducible refine Row.alloc ?_ _) | (with_reducible refine Row.drew ?_))) (by rw [set_same HZQ.out]), by repeat (first | (with_reducible exact Part.refl _ _) | refine Part.set ?_ (by simp) _ | (with_reducible refine Part.alloc ?_ _) | (with_reducible refine Part.drew ?_)), HI.out⟩
              · rw [hk] at kc0
                have HI := Lib.hid hi
                clear HCAT HKC hi
                go_wp2
                go_meet
                exact ⟨rfl, handC o, Row.of_eq (l := u64s (os.map handC)) (by repeat (first | (with_reducible exact HG5.out) | (with_reducible refine Row.set ?_ _ _) | (with_reducible refine Row.alloc ?_ _) | (with_reducible refine Row.drew ?_))) (by rw [set_same HZQ.out]), by repeat (first | (with_reducible exact Part.refl _ _) | refine Part.set ?_ (by simp) _ | (with_reducible refine Part.alloc ?_ _) | (with_reducible refine Part.drew ?_)), HI.out⟩
              · rw [hk] at kc0
                have HI := Lib.hid hi
                clear HCAT HKC hi
                go_wp2
                go_meet
                exact ⟨rfl, x2, Row.of_eq (l := (u64s (os.map handC)).set q (.int .u64 x2)) (by repeat (first | (with_reducible exact HG5.out) | (with_reducible refine Row.set ?_ _ _) | (with_reducible refine Row.alloc ?_ _) | (with_reducible refine Row.drew ?_))) (by rw [u64s_set]), by repeat (first | (with_reducible exact Part.refl _ _) | refine Part.set ?_ (by simp) _ | (with_reducible refine Part.alloc ?_ _) | (with_reducible refine Part.drew ?_)), HI.out⟩
              · rw [hk] at kc0
                have HI := Lib.hid hi
                clear HCAT HKC hi
                go_wp2
                go_meet
                exact ⟨rfl, handC o, Row.of_eq (l := u64s (os.map handC)) (by repeat (first | (with_reducible exact HG5.out) | (with_reducible refine Row.set ?_ _ _) | (with_reducible refine Row.alloc ?_ _) | (with_reducible refine Row.drew ?_))) (by rw [set_same HZQ.out]), by repeat (first | (with_reducible exact Part.refl _ _) | refine Part.set ?_ (by simp) _ | (with_reducible refine Part.alloc ?_ _) | (with_reducible refine Part.drew ?_)), HI.out⟩
              · rw [hk] at kc0
                have HI := Lib.hid hi
                clear HCAT HKC hi
                go_wp2
                go_meet
                exact ⟨rfl, handC o, Row.of_eq (l := u64s (os.map handC)) (by repeat (first | (with_reducible exact HG5.out) | (with_reducible refine Row.set ?_ _ _) | (with_reducible refine Row.alloc ?_ _) | (with_reducible refine Row.drew ?_))) (by rw [set_same HZQ.out]), by repeat (first | (with_reducible exact Part.refl _ _) | refine Part.set ?_ (by simp) _ | (with_reducible refine Part.alloc ?_ _) | (with_reducible refine Part.drew ?_)), HI.out⟩
            case rest =>
              obtain ⟨rfl, v, hrv, hpv, hlv⟩ := hcut
              have HRV := Lib.hid hrv
              have HPV := Lib.hid hpv
              have HLV := Lib.hid hlv
              have vfree := hrv.free
              have vlt := hrv.lt
              have vcell : wc.cell? ⟨gh, q, none⟩ = some (.int .u64 v) := by rw [hrv.cell, u64s_get, List.getElem?_set_self (by rw [List.length_map]; exact HQL.out)]; rfl
              have m1' : gk ∉ [gh] := not_sing m1
              have kc1 : wc.cell? ⟨gk, q * 2, none⟩ = some (.int .u8 o.k) := (World.cell?_of_block (w := w5) (a := ⟨gk, q * 2, none⟩) (hpv.block gk gkl m1')).trans HKC.out
              have pc1 : wc.cell? ⟨g, q, none⟩ = some (.pointer (some ⟨b, 0, none⟩)) := (World.cell?_of_block (w := w5) (a := ⟨g, q, none⟩) (hpv.block g gpl (not_sing m3))).trans pc0
              have HR6 := Lib.hid (HR5.out.part hpv (not_sing (fun e => N5.out e.symm)))
              clear hrv hpv hlv gcell pc0 m5 m6 glt gkl gpl gfree m1'
              go_upto_if 173 with fail
              go_cut [19, 23] (fun t l wx => l = .bool la ∧ ∃ T : Int, t = .int .u64 T ∧ T = ((os.set q (stepB ba ws o)).map takenC).sum ∧ ConsB W bq bk bw ba n (stepBW ba ws o) (os.set q (stepB ba ws o)) bs (.slice (some ⟨g, 0, none⟩) bs.length pc) (.slice (some ⟨gk, 0, none⟩) bs.length kc) gh limit wx)
              case first => as_aux_lemma =>
                cases la with
                | false =>
                  have hp : ¬ (stepB ba ws o).ph = 9 := by have := HLA.out; simpa using this
                  have hv := HLV.out rfl
                  have htt : takenC (stepB ba ws o) = 0 := by unfold takenC; rw [(stepB_same ba ws o).1]; split <;> simp [hp]
                  go_wp2
                  go_meet
                  exact ⟨by first | rfl | simp [*], tk, rfl, by rw [HT1.out, htt]; omega, HC.out.next HOo.out HBb.out HH9.out HS.out (Row.of_eq HRV.out (by rw [hv, List.map_set])) HPV.out⟩
                | true =>
                  have hp : (stepB ba ws o).ph = 9 := by have := HLA.out; simpa using this
                  have hh0 : handC (stepB ba ws o) = 0 := handC_over hp
                  by_cases hk : o.k = 1
                  · have hs1 := (stepB_same ba ws o).1
                    obtain ⟨an, han⟩ : ∃ a, (stepB ba ws o).ans = a := ⟨_, rfl⟩
                    have ha01 : an = 0 ∨ an = 1 := by rw [← han]; exact HHO'.out.2.2 (hs1.trans hk) hp
                    have HTT : Hid (takenC (stepB ba ws o) = an) := Lib.hid (by unfold takenC; rw [if_pos (hs1.trans hk), if_pos hp]; exact han)
                    have HAN := Lib.hid han
                    have ha0 : decide (an < 0) = false := by simp; omega
                    have ha1 : decide (1 < an) = false := by simp; omega
                    have haw : IntKind.u64.wrap an = an := by rw [IntKind.wrap_u64]; omega
                    have hta : IntKind.u64.wrap (tk + an) = tk + an := by have := HTK.out; rw [IntKind.wrap_u64]; omega
                    rw [hk] at kc1
                    have HHH := Lib.hid hh0
                    clear han hs1 ha01 hp hh0 hk
                    go_wp2_with (go_at_call 19; go_loud ((refine (banswer_op (bq := bq) (o := stepB ba ws o) ?hrow).mono ?_); (case hrow => repeat (first | (with_reducible exact HR6.out) | (with_reducible refine Row.far ?_ N5.out _) | (with_reducible refine Row.alloc ?_ _) | (with_reducible refine Row.drew ?_))); rw [HAN.out]; rintro e wx ⟨rfl, rfl⟩))
                    go_meet
                    exact ⟨by first | rfl | simp [*], tk + an, rfl, by rw [HT1.out, HTT.out], HC.out.next HOo.out HBb.out HH9.out HS.out (Row.of_eq (HRV.out.set q (.int .u64 0)) (by rw [u64s_set, List.set_set, List.map_set, HHH.out])) (HPV.out.set (by simp) _)⟩
                  · have hk1 : (o.k == 1) = false := by simpa using hk
                    have htt : takenC (stepB ba ws o) = 0 := by unfold takenC; rw [(stepB_same ba ws o).1, if_neg hk]
                    have HHH := Lib.hid hh0
                    have HTT := Lib.hid htt
                    clear hp hh0 htt
                    go_wp2
                    go_meet
                    exact ⟨by first | rfl | simp [*], tk, rfl, by rw [HT1.out, HTT.out]; omega, HC.out.next HOo.out HBb.out HH9.out HS.out (Row.of_eq (HRV.out.set q (.int .u64 0)) (by rw [u64s_set, List.set_set, List.map_set, HHH.out])) (HPV.out.set (by simp) _)⟩
              case rest =>
                obtain ⟨rfl, T8, rfl, hTS, hC9⟩ := hcut
                have HC9 := Lib.hid hC9
                have HTS0 := Lib.hid hTS
                clear hTS hC9 vfree vlt vcell kc1 pc1 m1 m2 m3 m4
                go_upto_region 37 with (go_at_call 21; (with_reducible refine (qall_any HC9.out.kinds.many.one.quo).mono ?_); rintro e w8 ⟨gl, rfl, hgl, hr8, hb8⟩; have HC8 := Lib.hid (HC9.out.on hb8); have HL8 := Lib.hid hr8; clear hgl hr8 hb8)
                have HLN : Hid ((stepBW ba ws o).length = n + 1) := Lib.hid HC8.out.kinds.many.one.len
                obtain ⟨ws8, hws8⟩ : ∃ l, stepBW ba ws o = l := ⟨_, rfl⟩
                obtain ⟨os8, hos8⟩ : ∃ l, os.set q (stepB ba ws o) = l := ⟨_, rfl⟩
                have HTS : Hid ((os8.map takenC).sum = T8) := Lib.hid (by rw [← hos8]; exact HTS0.out.symm)
                rw [hws8, hos8] at HC8
                rw [hws8] at HL8 HLN ⊢
                clear hws8 hos8 HQ5 HR5 HG5 HS HT1 HTS0 HC9
                have HB8 := Lib.hid HC8.out.bounds
                have HM8 := Lib.hid HC8.out.lim
                have HS8 := Lib.hid HC8.out.sum
                have hw8l : ws8.length ≤ 1000000 := by have := HLN.out; have := HN.out; omega
                go_wp2
                go_loopw [24, 26] (fun s u wx => ∃ j : Nat, j ≤ ws8.length ∧ u = .int .i64 j ∧ s = .int .u64 (T8 + (ws8.take j).sum) ∧ w8 = wx) (fun _ u _ => ws8.length - (intOf u).toNat)
                case atStart => exact ⟨0, Nat.zero_le _, rfl, by simp, rfl⟩
                case round => as_aux_lemma =>
                  obtain ⟨j2, hj2, rfl, rfl, rfl⟩ := hrel
                  by_cases hlt3 : j2 < ws8.length
                  · obtain ⟨x, hx⟩ : ∃ x, ws8[j2]? = some x := ⟨ws8[j2], List.getElem?_eq_getElem hlt3⟩
                    have hcx := HL8.out.lies j2 x hx
                    have hgl8 := HL8.out.lt
                    have hlt4 : (j2 : Int) < (ws8.length : Int) := by omega
                    have hadd : IntKind.u64.wrap (T8 + (ws8.take j2).sum + x) = T8 + (ws8.take (j2 + 1)).sum := by
                      have h1 := take_next hx
                      have h2 := take_sum_le (l := ws8) (fun x hx => (HC8.out.kinds.many.one.quo.words.ok x hx).1) (j2 + 1)
                      have h3 := HB8.out; have h4 := HM8.out; have h5 := HS8.out; have h6 := HTS.out
                      rw [IntKind.wrap_u64]; omega
                    clear hx
                    go_wp2
                    go_roundw
                    case rel => exact ⟨j2 + 1, by omega, by go_num, rfl, by first | rfl | trivial⟩
                    case measure => simp [intOf]; omega
                  · obtain rfl : j2 = ws8.length := by omega
                    rw [List.take_length]
                    have HBL : Hid (os8.length = bs.length) := Lib.hid HC8.out.kinds.many.pends.len.symm
                    obtain ⟨hs8, hhs8⟩ : ∃ l, os8.map handC = l := ⟨_, rfl⟩
                    have HHL : Hid (hs8.length = bs.length) := Lib.hid (by rw [← hhs8, List.length_map]; exact HBL.out)
                    have HHR : Hid (Row w8 gh 39 (u64s hs8)) := Lib.hid (by rw [← hhs8]; exact HC8.out.hs)
                    have HHP : Hid (∀ x ∈ hs8, 0 ≤ x) := Lib.hid (by rw [← hhs8]; exact hands_pos HC8.out.okh)
                    have HS9 : Hid (ws8.sum + hs8.sum + T8 = limit) := Lib.hid (by rw [← hhs8, ← HTS.out]; exact HS8.out)
                    have HSW : Hid (0 ≤ ws8.sum ∧ 0 ≤ T8) := Lib.hid (by have := HB8.out; rw [← HTS.out]; omega)
                    clear hhs8
                    go_wp2
                    go_loopw [24, 27] (fun s u wx => ∃ j : Nat, j ≤ bs.length ∧ u = .int .i64 j ∧ s = .int .u64 (T8 + ws8.sum + (hs8.take j).sum) ∧ w8 = wx) (fun _ u _ => bs.length - (intOf u).toNat)
                    case atStart => exact ⟨0, Nat.zero_le _, rfl, by simp, rfl⟩
                    case round =>
                      obtain ⟨j3, hj3, rfl, rfl, rfl⟩ := hrel
                      by_cases hlt5 : j3 < bs.length
                      · obtain ⟨x, hx⟩ : ∃ x, hs8[j3]? = some x := ⟨_, List.getElem?_eq_getElem (by rw [HHL.out]; exact hlt5)⟩
                        have hcx := HHR.out.lies j3 x hx
                        have hgl8 := HHR.out.lt
                        have hlt6 : (j3 : Int) < (bs.length : Int) := by omega
                        have hadd : IntKind.u64.wrap (T8 + ws8.sum + (hs8.take j3).sum + x) = T8 + ws8.sum + (hs8.take (j3 + 1)).sum := by
                          have h1 := take_next hx
                          have h2 := take_sum_le HHP.out (j3 + 1)
                          have h3 := HSW.out; have h4 := HM8.out; have h5 := HS9.out
                          rw [IntKind.wrap_u64]; omega
                        clear hx
                        go_wp2
                        go_roundw
                        case rel => exact ⟨j3 + 1, by omega, by go_num, rfl, by first | rfl | trivial⟩
                        case measure => simp [intOf]; omega
                      · obtain rfl : j3 = bs.length := by omega
                        have hfin : T8 + ws8.sum + (hs8.take bs.length).sum = limit := by rw [← HHL.out, List.take_length]; have := HS9.out; omega
                        rw [hfin]
                        have hTl : decide (limit < T8) = false := by have h1 := HS9.out; have h2 := HSW.out; have h3 := sum_pos HHP.out; simp; omega
                        have hlen : (((ws8.length : Nat) : Int) != ((n + 1 : Nat) : Int)) = false := by have := HLN.out; simp; omega
                        go_wp2
                        go_roundw
                        case rel => exact ⟨j + 1, by omega, by go_num, ws8, os8, by rw [HTS.out], HC8.out⟩
                        case measure => simp [intOf]; omega
        · obtain rfl : j = xs.length := by omega
          go_wp2
          go_ret
          exact ⟨rfl, HC.out.low⟩
end Go.Proofs.Ytddlalljdecdoaa
