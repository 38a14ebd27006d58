/- WHAT HistStill's LOOPS KEEP; little. -/
import Derived.Test.YtiifhkfkcljoiaaFa
import Derived.Test.YtiifhkfkcljoiaaEy
namespace Go.Proofs.Ytiifhkfkcljoiaa
open Go Go.RowKit
set_option maxRecDepth 100000
theorem right_recF {h v n : Int} : rightO h 1 v n = (decide (0 ≤ v) && decide (v ≤ h) && n != 0) := by simp [rightO]
theorem right_showF {h v n : Int} : rightO h 2 v n = (v == 0 && n == 0) := by simp [rightO]
theorem right_kindF {h k v n : Int} (h1 : k ≠ 1) (h2 : k ≠ 2) : rightO h k v n = false := by simp [rightO, h1, h2]
theorem right_of_recF {h v n : Int} (hR : rightO h 1 v n = true) : 0 ≤ v ∧ v ≤ h ∧ n ≠ 0 := by
  rw [right_recF] at hR
  simp only [Bool.and_eq_true, decide_eq_true_eq, bne_iff_ne, ne_eq] at hR
  exact ⟨hR.1.1, hR.1.2, hR.2⟩
theorem right_of_showF {h v n : Int} (hR : rightO h 2 v n = true) : v = 0 ∧ n = 0 := by
  rw [right_showF] at hR
  simpa using hR
section
variable {w : World} {bh bk bw m : Nat} {l h d k v n : Int} {ws : List Int}
theorem hstart_yesF (hs : HistM w bh bk bw l h d m ws) (r : Sc.rightB l h d = true) (hR : rightO h k v n = true) : Calls Try.prog 13 #[.pointer (some ⟨bh, 0, none⟩), .agg #[.int .u8 k, .int .i64 v, .int .u64 n]] w (BegunH w bh m (opH l d k v n)) := by
  by_cases h1 : k = 1
  · subst h1
    obtain ⟨a, b, c⟩ := right_of_recF hR
    exact hstart_rec hs r a b c
  · by_cases h2 : k = 2
    · subst h2
      obtain ⟨rfl, rfl⟩ := right_of_showF hR
      exact hstart_show hs
    · rw [right_kindF h1 h2] at hR
      cases hR
theorem hstart_noF (hs : HistM w bh bk bw l h d m ws) (r : Sc.rightB l h d = true) (hR : rightO h k v n = false) : Calls Try.prog 13 #[.pointer (some ⟨bh, 0, none⟩), .agg #[.int .u8 k, .int .i64 v, .int .u64 n]] w fun e w' => e = .returned (.tuple #[.pointer none, .int .i64 2]) ∧ Below w.heap.size w w' := by
  by_cases h1 : k = 1
  · subst h1
    by_cases a : 0 ≤ v ∧ v ≤ h
    · by_cases c : n = 0
      · exact hstart_rec_none hs r a.1 a.2 c
      · rw [right_recF] at hR
        simp [a.1, a.2, c] at hR
    · exact hstart_rec_out hs r (by omega)
  · by_cases h2 : k = 2
    · subst h2
      by_cases a : v = 0 ∧ n = 0
      · rw [right_showF] at hR
        simp [a.1, a.2] at hR
      · exact hstart_show_no (by omega)
    · exact hstart_kind h1 h2
/-- an operation that has begun -/
theorem op_one (r : Sc.rightB l h d = true) (hR : rightO h k v n = true) : OkH (Sc.cnt l h d) (opH l d k v n) ∧ OneR (Sc.cnt l h d) (opH l d k v n) ∧ (opH l d k v n).at_ = 0 ∧ (opH l d k v n).en = false ∧ (opH l d k v n).k = k ∧ (opH l d k v n).v = v ∧ (opH l d k v n).n = n ∧ (k = 1 → OkR l h d (recO (opH l d k v n)) ∨ n < 1) := by
  have hh := (Sc.right_of r).2.2.2.1
  have hc := (cnt_few r).1
  by_cases h1 : k = 1
  · subst h1
    obtain ⟨a, b, c⟩ := right_of_recF hR
    have e : opH l d 1 v n = newR v n (ixH l d v) := if_pos rfl
    rw [e]
    refine ⟨ok_new r a b, ⟨.inl ⟨rfl, rfl, fun _ => ⟨by simp [newR], fun e => by simp [newR] at e⟩⟩, fun _ => ⟨a, by show v ≤ _; omega, ix_lt r a b⟩, fun _ e => by simp [newR] at e, fun _ e => by simp [newR] at e⟩, rfl, rfl, rfl, rfl, rfl, fun _ => ?_⟩
    by_cases hn : n < 1
    · exact .inr hn
    · exact .inl ⟨a, b, by show 1 ≤ n; omega, rfl⟩
  · by_cases h2 : k = 2
    · subst h2
      obtain ⟨rfl, rfl⟩ := right_of_showF hR
      have e : opH l d 2 0 0 = newS := if_neg (by decide)
      rw [e]
      exact ⟨fun e => by simp [newS] at e, ⟨.inr ⟨rfl, rfl, .inl ⟨rfl, rfl, by simp [newS]⟩⟩, fun e => by simp [newS] at e, fun e => by simp [newS] at e, fun e => by simp [newS] at e⟩, rfl, rfl, rfl, rfl, rfl, fun e => by cases e⟩
    · rw [right_kindF h1 h2] at hR
      cases hR
end
/-- the operations of a list that are right -/
def pickO (l h d : Int) (ops : List (Int × Int × Int)) : List OpH := ops.filterMap fun op => if rightO h op.1 op.2.1 op.2.2 then some (opH l d op.1 op.2.1 op.2.2) else none
theorem pickO_take {l h d : Int} (ops : List (Int × Int × Int)) {j : Nat} {op : Int × Int × Int} (hj : ops[j]? = some op) :
    pickO l h d (ops.take (j + 1)) = pickO l h d (ops.take j) ++ (if rightO h op.1 op.2.1 op.2.2 then [opH l d op.1 op.2.1 op.2.2] else []) := by
  rw [List.take_add_one, hj]
  unfold pickO
  rw [List.filterMap_append]
  congr 1
  cases hb : rightO h op.1 op.2.1 op.2.2 <;> simp [hb]
theorem pickO_length {l h d : Int} (ops : List (Int × Int × Int)) : (pickO l h d ops).length ≤ ops.length := List.length_filterMap_le _ _
/-- the cells of their kinds -/
def hopCells (os : List OpH) : List Value := os.flatMap fun o => [.int .u8 o.k, .int .i64 o.v, .int .u64 o.n]
theorem hopCells_snoc (os : List OpH) (o : OpH) : hopCells os ++ [.int .u8 o.k, .int .i64 o.v, .int .u64 o.n] = hopCells (os ++ [o]) := by simp [hopCells]
theorem hopCells_get {os : List OpH} : ∀ {q : Nat} {o : OpH}, os[q]? = some o → (hopCells os)[q * 3]? = some (.int .u8 o.k) ∧ (hopCells os)[q * 3 + 1]? = some (.int .i64 o.v) ∧ (hopCells os)[q * 3 + 2]? = some (.int .u64 o.n) := by
  induction os with
  | nil => intro q o h; simp at h
  | cons a os ih =>
    intro q o h
    have e : hopCells (a :: os) = [.int .u8 a.k, .int .i64 a.v, .int .u64 a.n] ++ hopCells os := rfl
    rw [e]
    cases q with
    | zero => simp at h; subst h; simp
    | succ q =>
      simp at h
      obtain ⟨h1, h2, h3⟩ := ih h
      rw [List.getElem?_append_right (by simp; omega), List.getElem?_append_right (by simp; omega), List.getElem?_append_right (by simp; omega)]
      have e1 : (q + 1) * 3 - [Value.int .u8 a.k, .int .i64 a.v, .int .u64 a.n].length = q * 3 := by simp; omega
      have e2 : (q + 1) * 3 + 1 - [Value.int .u8 a.k, .int .i64 a.v, .int .u64 a.n].length = q * 3 + 1 := by simp; omega
      have e3 : (q + 1) * 3 + 2 - [Value.int .u8 a.k, .int .i64 a.v, .int .u64 a.n].length = q * 3 + 2 := by simp; omega
      rw [e1, e2, e3]
      exact ⟨h1, h2, h3⟩
theorem three_nums (k v n : Int) : ∀ u ∈ [Value.int .u8 k, .int .i64 v, .int .u64 n], u.oneCell' = true := by
  intro u hu
  simp at hu
  rcases hu with rfl | rfl | rfl <;> rfl
theorem infoHO : (Try.prog.info? 40).map (fun i => (i.zero, i.size, i.bytes)) = some (some (.agg #[.int .u8 0, .int .i64 0, .int .u64 0]), 3, 24) := by kernel_rfl
/-- operations begun, and what they are -/
structure KindK (W : World) (bh bk bw : Nat) (l h d : Int) (m : Nat) (ws : List Int) (os : List OpH) (bs : List Nat) (xs : List (Value × ShM)) (vp vk : Value) (wr : World) : Prop where
  beg : BegK W bh bk bw l h d m ws os bs xs vp wr
  ks : wr.ownsRow W.heap.size 40 3 vk bs.length (hopCells os)
section
variable {W wr w1 w5 w6 w7 : World} {bh bk bw m : Nat} {l h d : Int} {ws : List Int} {os : List OpH} {bs : List Nat} {xs : List (Value × ShM)} {vp vk vk' : Value}
theorem KindK.on (hM : KindK W bh bk bw l h d m ws os bs xs vp vk wr) (hb : Below wr.heap.size wr w1) : KindK W bh bk bw l h d m ws os bs xs vp vk w1 := ⟨hM.beg.on hb, own_part hM.ks (Part.of_below hb (Nat.le_refl _) []) (by simp)⟩
theorem KindK.nil (hh : HistM wr bh bk bw l h d m ws) (hlo : W.heap.size ≤ bw) (hb : Below W.heap.size W wr) : KindK W bh bk bw l h d m ws [] [] [] (.slice none 0 0) (.slice none 0 0) wr :=
  ⟨BegK.nil hh (Below.refl _ _) hlo hb, ⟨rfl, .inl ⟨rfl, rfl⟩⟩⟩
theorem KindK.grow {o : OpH} {bp g6 c6 : Nat} {nx : Value} {ob ob' : Obj} (hM : KindK W bh bk bw l h d m ws os bs xs vp vk wr) (hb5 : Below wr.heap.size wr w5) (hr5 : Row w5 bp 85 (pendH bh nx zeroS)) (hn : NextH bp m o w5 nx zeroS) (hge : wr.heap.size ≤ bp) (ho : OkH m o)
    (h6 : w6.ownsRow W.heap.size 34 1 (.slice (some ⟨g6, 0, none⟩) (bs.length + 1) c6) (bs.length + 1) (ptrs bs ++ [.pointer (some ⟨bp, 0, none⟩)])) (hg6 : (w5.alloc ob).grownBy w6 vp.ownBlock) (hat6 : vp.ownBlock = some g6 ∨ g6 = (w5.alloc ob).heap.size)
    (h7 : w7.ownsRow W.heap.size 40 3 vk' (bs.length + 1) (hopCells os ++ [.int .u8 o.k, .int .i64 o.v, .int .u64 o.n])) (hg7 : (w6.alloc ob').grownBy w7 vk.ownBlock) :
    KindK W bh bk bw l h d m ws (os ++ [o]) (bs ++ [bp]) (xs ++ [(nx, zeroS)]) (.slice (some ⟨g6, 0, none⟩) (bs.length + 1) c6) vk' w7 := by
  have a1 := (hM.beg.add hb5 hr5 hn hge ho).alloc ob
  have k1 : (w5.alloc ob).ownsRow W.heap.size 40 3 vk bs.length (hopCells os) := (hM.on hb5).ks.alloc ob
  have k6 : (w6.alloc ob').ownsRow W.heap.size 40 3 vk bs.length (hopCells os) := (k1.kept hg6 (own_apart k1 a1.beg.ps (by decide))).alloc ob'
  refine ⟨((a1.done h6 hg6 hat6).alloc ob').grown k6 hg7 (.inr rfl), ?_⟩
  rw [List.length_append, List.length_singleton, ← hopCells_snoc]
  exact h7
end
set_option maxHeartbeats 12800000
theorem under_any {W w : World} {bh bk bw m : Nat} {l h d : Int} {ws : List Int} {A0 : Option Addr} {cap : Nat} {ops : List (Int × Int × Int)} (r : Sc.rightB l h d = true) (hm : m = Sc.cnt l h d) (hs : HistM w bh bk bw l h d m ws) (hlo : W.heap.size ≤ bw) (hlow : Below W.heap.size W w) (hE : Ext3 .u8 .i64 .u64 w A0 ops) (hr : ops.length * 24 ≤ 140737488355328) :
    Calls Try.prog 30 #[.pointer (some ⟨bh, 0, none⟩), .slice A0 ops.length cap] w fun e w' => ∃ vp vk bs xs, e = .returned (.tuple #[vp, vk]) ∧ KindK W bh bk bw l h d m ws (pickO l h d ops) bs xs vp vk w' ∧ Below w.heap.size w w' := by
  obtain ⟨ip, hip, hp0, hp1, hp2⟩ := info_parts infoPH
  obtain ⟨iu, hiu, hu0, hu1, hu2⟩ := info_parts infoHO
  have RR := Lib.hid r
  have HM := Lib.hid hm
  have HE := Lib.hid hE
  have HK0 := Lib.hid (KindK.nil hs hlo hlow)
  have HWW : Hid (W.heap.size ≤ w.heap.size) := Lib.hid hlow.size
  clear r hm hs hlo hlow hE
  go_enter Try.func30, Try.ntmps30
  go_wp2
  go_loopw [6, 7, 8] (fun vp vk u wr => ∃ j : Nat, j ≤ ops.length ∧ u = .int .i64 j ∧ ∃ bs xs, KindK W bh bk bw l h d m ws (pickO l h d (ops.take j)) bs xs vp vk wr ∧ wr.ownsRow w.heap.size 34 1 vp bs.length (ptrs bs) ∧ wr.ownsRow w.heap.size 40 3 vk bs.length (hopCells (pickO l h d (ops.take j))) ∧ Below w.heap.size w wr) (fun _ _ u _ => ops.length - (intOf u).toNat)
  case atStart => exact ⟨0, Nat.zero_le _, rfl, [], [], HK0.out, ⟨rfl, .inl ⟨rfl, rfl⟩⟩, ⟨rfl, .inl ⟨rfl, rfl⟩⟩, Below.refl _ _⟩
  case round =>
    obtain ⟨j, hj, rfl, bs, xs, hM, hps, hks, hlw⟩ := hrel
    have HK := Lib.hid hM
    have HPS := Lib.hid hps
    have HKS := Lib.hid hks
    have HLW := Lib.hid hlw
    clear hM hps hks hlw HK0
    by_cases hlt : j < ops.length
    · obtain ⟨⟨k, v, n⟩, hop⟩ : ∃ op, ops[j]? = some op := ⟨ops[j], List.getElem?_eq_getElem hlt⟩
      obtain ⟨b', o, rfl, hbW, e0, e1, e2⟩ := HE.out j _ hop
      dsimp only at e0 e1 e2
      have hb' : b' < wr.heap.size := Nat.lt_of_lt_of_le hbW HLW.out.size
      have q0 := (HLW.out.cell (p := ⟨b', o + j * 3, none⟩) hbW).trans e0
      have q1 := (HLW.out.cell (p := ⟨b', o + j * 3 + 1, none⟩) hbW).trans e1
      have q2 := (HLW.out.cell (p := ⟨b', o + j * 3 + 2, none⟩) hbW).trans e2
      have E0 := Lib.hid e0
      have E1 := Lib.hid e1
      have E2 := Lib.hid e2
      have HBW := Lib.hid hbW
      have hlt2 : (j : Int) < (ops.length : Int) := by omega
      have hj3 : j * 3 ≤ 17592186044416 := by omega
      have HT := Lib.hid (pickO_take (l := l) (h := h) (d := d) ops hop)
      have HPL := Lib.hid (pickO_length (l := l) (h := h) (d := d) (ops.take j))
      clear hop hbW e0 e1 e2
      cases hR : rightO h k v n with
      | false =>
        have HR := Lib.hid hR
        clear hR
        go_wp2_with (go_at_call 13; (with_reducible refine (hstart_noF HK.out.beg.hist RR.out HR.out).mono ?_); rintro e w4 ⟨rfl, hb4⟩; have HB4 := Lib.hid hb4; clear hb4)
        go_roundw
        case rel => exact ⟨j + 1, by omega, by go_num, bs, xs, by rw [HT.out]; simp only [HR.out]; rw [if_neg (by simp), List.append_nil]; exact ⟨HK.out.on HB4.out, own_part HPS.out (Part.of_below HB4.out (Nat.le_refl _) []) (by simp), own_part HKS.out (Part.of_below HB4.out (Nat.le_refl _) []) (by simp), HLW.out.trans (HB4.out.mono HLW.out.size)⟩⟩
        case measure => simp [intOf]; omega
      | true =>
        have HR := Lib.hid hR
        have HLL : Hid (bs.length + 1 ≤ ops.length) := Lib.hid (by have h1 := HK.out.beg.pends.len; have h2 := HPL.out; rw [List.length_take] at h2; omega)
        have H3 : Hid (bs.length + 1 ≤ maxLen) := Lib.hid (by have := HLL.out; unfold maxLen; omega)
        have H4 : Hid ((bs.length + 1) * 8 ≤ 140737488355328) := Lib.hid (by have := HLL.out; omega)
        have H6 : Hid ((bs.length + 1) * 24 ≤ 140737488355328) := Lib.hid (by have := HLL.out; omega)
        obtain ⟨g1, g2, g3, g4, g5, g6', g7', _⟩ := op_one RR.out hR
        have HOK : Hid (OkH m (opH l d k v n)) := Lib.hid (by rw [HM.out]; exact g1)
        have HOC : Hid ([Value.int .u8 k, .int .i64 v, .int .u64 n] = [.int .u8 (opH l d k v n).k, .int .i64 (opH l d k v n).v, .int .u64 (opH l d k v n).n]) := Lib.hid (by rw [g5, g6', g7'])
        clear hR g1 g2 g3 g4 g5 g6' g7'
        go_wp2_with (first
          | (go_at_call 13; (with_reducible refine (hstart_yesF HK.out.beg.hist RR.out HR.out).mono ?_); rintro e w5 ⟨bp, nx, rfl, hn4, hr4, hx4, hb4⟩; have HB5 := Lib.hid hb4; have HN5 := Lib.hid hn4; have HR5 := Lib.hid hr4; have HX5 := Lib.hid hx4; have HPS5 := Lib.hid (own_part HPS.out (Part.of_below hb4 (Nat.le_refl _) []) (by simp)); have HKS5 := Lib.hid (own_part HKS.out (Part.of_below hb4 (Nat.le_refl _) []) (by simp)); have HLW5 := Lib.hid (HLW.out.trans (hb4.mono HLW.out.size)); have H5 : Hid (w.heap.size ≤ (w5.alloc (.cells #[.pointer (some ⟨bp, 0, none⟩)] 34)).heap.size) := Lib.hid (by have := HLW5.out.size; simp; omega); have y0 := (HLW5.out.cell (p := ⟨b', o + j * 3, none⟩) HBW.out).trans E0.out; have y1 := (HLW5.out.cell (p := ⟨b', o + j * 3 + 1, none⟩) HBW.out).trans E1.out; have y2 := (HLW5.out.cell (p := ⟨b', o + j * 3 + 2, none⟩) HBW.out).trans E2.out; have w5b : b' < w5.heap.size := Nat.lt_of_lt_of_le HBW.out HLW5.out.size; clear hb4 hn4 hr4 hx4)
          | (at_builtin; refine wpList_append_lies _ rfl _ _ 33 rfl w.heap.size 34 ip (.pointer none) 1 8 Try.underlying33 hip hp0 hp1 hp2 rfl (by decide) _ _ _ rfl (HPS5.out.alloc _) ⟨w5.heap.size, 0, none⟩ 1 1 [.pointer (some ⟨bp, 0, none⟩)] rfl rfl (new_cells _ _ _) (one_ptr _) (by decide) H3.out H4.out H5.out _ rfl ?_; intro g6 c6 w6 hown6 hgr6 hat6 hlt6; have HO6 := Lib.hid hown6; have HG6 := Lib.hid hgr6; have HT6 := Lib.hid hat6; have hlow6 := (HLW5.out.alloc HLW5.out.size _).grown hgr6 H5.out (own_from HPS5.out); have HLW6 := Lib.hid hlow6; have KS6 := Lib.hid (((HKS5.out.alloc _).kept hgr6 (own_apart HKS5.out HPS5.out (by decide)))); have H7 : Hid (w.heap.size ≤ (w6.alloc (.cells #[.int .u8 k, .int .i64 v, .int .u64 n] 40)).heap.size) := Lib.hid (by have := hlow6.size; simp; omega); have x0 := (HLW6.out.cell (p := ⟨b', o + j * 3, none⟩) HBW.out).trans E0.out; have x1 := (HLW6.out.cell (p := ⟨b', o + j * 3 + 1, none⟩) HBW.out).trans E1.out; have x2 := (HLW6.out.cell (p := ⟨b', o + j * 3 + 2, none⟩) HBW.out).trans E2.out; have w6b : b' < w6.heap.size := Nat.lt_of_lt_of_le HBW.out HLW6.out.size; clear hown6 hgr6 hat6 hlow6)
          | (at_builtin; refine wpList_append_lies _ rfl _ _ 24 rfl w.heap.size 40 iu (.agg #[.int .u8 0, .int .i64 0, .int .u64 0]) 3 24 Try.underlying24 hiu hu0 hu1 hu2 rfl (by decide) _ _ _ rfl (KS6.out.alloc _) ⟨w6.heap.size, 0, none⟩ 1 1 [.int .u8 k, .int .i64 v, .int .u64 n] rfl rfl (new_cells _ _ _) (three_nums _ _ _) (by decide) H3.out H6.out H7.out _ rfl ?_; intro g7 c7 w7 hown7 hgr7 hat7 hlt7; have HO7 := Lib.hid hown7; have HG7 := Lib.hid hgr7; clear hown7 hgr7 hat7))
        go_roundw
        case rel =>
          have hww : W.heap.size ≤ w.heap.size := HWW.out
          have h7 := HO7.out
          rw [HOC.out] at h7
          have hk7 := HK.out.grow HB5.out HR5.out HX5.out HN5.out HOK.out (ownsRow_base HO6.out hww) HG6.out HT6.out (ownsRow_base h7 hww) HG7.out
          have u6 := HO6.out.alloc (.cells #[.int .u8 k, .int .i64 v, .int .u64 n] 40)
          refine ⟨j + 1, by omega, by go_num, bs ++ [bp], xs ++ [(nx, zeroS)], ?_⟩
          rw [HT.out]
          simp only [HR.out, if_true]
          refine ⟨hk7, ?_, ?_, (HLW6.out.alloc HLW6.out.size _).grown HG7.out H7.out (own_from KS6.out)⟩
          · rw [List.length_append, List.length_singleton, ← ptrs_snoc]
            exact u6.kept HG7.out (own_apart u6 (KS6.out.alloc _) (by decide))
          · rw [List.length_append, List.length_singleton, ← hopCells_snoc]
            exact h7
        case measure => simp [intOf]; omega
    · obtain rfl : j = ops.length := by omega
      go_wp2
      go_ret2
      exact ⟨_, _, bs, xs, rfl, by have := HK.out; rwa [List.take_length] at this, HLW.out⟩
set_option maxHeartbeats 12800000
section
variable {A : Option Addr}
/-- what all operations of a list ask together -/
def allN (ops : List (Int × Int × Int)) : Int := (ops.map (fun op => op.2.2)).sum
theorem allN_snoc (ops : List (Int × Int × Int)) (op : Int × Int × Int) : allN (ops ++ [op]) = allN ops + op.2.2 := by simp [allN]
theorem allN_take {ops : List (Int × Int × Int)} {k : Nat} {op : Int × Int × Int} (hx : ops[k]? = some op) : allN (ops.take (k + 1)) = allN (ops.take k) + op.2.2 := by
  rw [List.take_add_one, hx]; exact allN_snoc _ _
def littleF (ops : List (Int × Int × Int)) : Bool := ops.all (fun op => decide (op.2.2 ≤ 1099511627776)) && (ops.isEmpty || decide (ops.length ≤ 1048576))
theorem little_sum {ops : List (Int × Int × Int)} (hl : littleF ops = true) : allN ops < 4611686018427387904 := by
  simp only [littleF, Bool.and_eq_true, List.all_eq_true, decide_eq_true_eq, Bool.or_eq_true, List.isEmpty_iff] at hl
  obtain ⟨h1, h2⟩ := hl
  have key : ∀ (l : List (Int × Int × Int)), (∀ x ∈ l, x.2.2 ≤ 1099511627776) → allN l ≤ (l.length : Int) * 1099511627776 := fun l hl => by
    induction l with
    | nil => simp [allN]
    | cons x t ih =>
      have a := ih (fun y hy => hl y (List.mem_cons_of_mem _ hy))
      have b := hl x (by simp)
      simp only [allN, List.map_cons, List.sum_cons, List.length_cons] at a ⊢
      omega
  have := key ops h1
  rcases h2 with rfl | h2
  · simp [allN]
  · omega
theorem little_big {ops : List (Int × Int × Int)} {k : Nat} {op : Int × Int × Int} (hx : ops[k]? = some op) (hn : 1099511627776 < op.2.2) : littleF ops = false := by
  have : ops.all (fun op => decide (op.2.2 ≤ 1099511627776)) = false := by
    rw [List.all_eq_false]
    exact ⟨op, List.mem_of_getElem? hx, by simp; omega⟩
  unfold littleF
  rw [this]
  rfl
theorem little_many {ops : List (Int × Int × Int)} (h1 : 1048576 < ops.length) : littleF ops = false := by
  unfold littleF
  rw [decide_eq_false (by omega : ¬ ops.length ≤ 1048576)]
  cases ops with
  | nil => simp at h1
  | cons x t => simp
theorem little_yes {ops : List (Int × Int × Int)} (h1 : ∀ (j : Nat) (op : Int × Int × Int), j < ops.length → ops[j]? = some op → op.2.2 ≤ 1099511627776) (h2 : ops.length = 0 ∨ ops.length ≤ 1048576) : littleF ops = true := by
  simp only [littleF, Bool.and_eq_true, List.all_eq_true, decide_eq_true_eq, Bool.or_eq_true, List.isEmpty_iff]
  refine ⟨fun x hx => ?_, ?_⟩
  · obtain ⟨j, hj⟩ := List.getElem?_of_mem hx
    exact h1 j x (lt_of_get hj) hj
  · rcases h2 with h2 | h2
    · exact .inl (List.length_eq_zero_iff.1 h2)
    · exact .inr h2
theorem little_any {cap : Nat} {ops : List (Int × Int × Int)} {w : World} (hE : Ext3 .u8 .i64 .u64 w A ops) (hr : ops.length * 24 ≤ 140737488355328) (h0 : ∀ (j : Nat) (op : Int × Int × Int), ops[j]? = some op → 0 ≤ op.2.2) :
    Calls Try.prog 33 #[.slice A ops.length cap] w fun e w' => e = .returned (.bool (littleF ops)) ∧ w = w' := by
  have HE := Lib.hid hE
  have H0 := Lib.hid h0
  clear hE h0
  go_enter Try.func33, Try.ntmps33
  go_wp2
  go_loopw [3, 4] (fun s i wr => ∃ k : Nat, k ≤ ops.length ∧ i = .int .i64 k ∧ s = .int .u64 (allN (ops.take k)) ∧ 0 ≤ allN (ops.take k) ∧ allN (ops.take k) ≤ (k : Int) * 1099511627776 ∧ (k = 0 ∨ ops.length ≤ 1048576) ∧ (∀ (j : Nat) (op : Int × Int × Int), j < k → ops[j]? = some op → op.2.2 ≤ 1099511627776) ∧ w = wr) (fun _ i _ => ops.length - (intOf i).toNat)
  case atStart => exact ⟨0, Nat.zero_le _, rfl, rfl, by simp [allN], by simp [allN], .inl rfl, fun j op hj => by omega, rfl⟩
  case round =>
    obtain ⟨k, hk, rfl, rfl, hlo, hup, hfew, hsm, rfl⟩ := hrel
    have HSM := Lib.hid hsm
    have HLO := Lib.hid hlo
    have HUP := Lib.hid hup
    have HF := Lib.hid hfew
    clear hlo hup hfew hsm
    by_cases hlt : k < ops.length
    · obtain ⟨⟨kd, v, n⟩, hop⟩ : ∃ op, ops[k]? = some op := ⟨ops[k], List.getElem?_eq_getElem hlt⟩
      obtain ⟨b', o', rfl, hbl, e0, e1, e2⟩ := HE.out k _ hop
      have hn0 := H0.out k _ hop
      have HT := Lib.hid (allN_take hop)
      have HOP := Lib.hid hop
      have hlt2 : (k : Int) < (ops.length : Int) := by omega
      have hk3 : k * 3 ≤ 17592186044416 := by omega
      clear hop hbl
      dsimp only at e0 e1 e2 hn0
      obtain ⟨s0, hs0⟩ : ∃ s0, allN (ops.take k) = s0 := ⟨_, rfl⟩
      rw [hs0]
      by_cases c1 : 1099511627776 < n
      · have HL := Lib.hid (little_big HOP.out c1)
        go_wp2
        go_ret
        exact ⟨by rw [HL.out]; rfl, rfl⟩
      · by_cases c2 : 1048576 < ops.length
        · have c2i : (1048576 : Int) < (ops.length : Int) := by omega
          have c1i : n ≤ 1099511627776 := by omega
          clear c1
          have HL := Lib.hid (little_many c2)
          go_wp2
          go_ret
          exact ⟨by rw [HL.out]; rfl, rfl⟩
        · have c2i : (ops.length : Int) ≤ 1048576 := by omega
          have c1i : n ≤ 1099511627776 := by omega
          have HW : Hid (IntKind.u64.wrap (s0 + n) = allN (ops.take (k + 1))) := Lib.hid (by
            have h1 := HLO.out
            have h2 := HUP.out
            rw [HT.out]
            rw [hs0] at h1 h2 ⊢
            dsimp only
            exact wrap_in (by omega) (by omega))
          have HR : Hid (0 ≤ allN (ops.take (k + 1)) ∧ allN (ops.take (k + 1)) ≤ ((k + 1 : Nat) : Int) * 1099511627776) := Lib.hid (by
            have h1 := HLO.out
            have h2 := HUP.out
            rw [HT.out]
            dsimp only
            omega)
          have HC2 := Lib.hid c2
          have HC1 := Lib.hid c1i
          clear c1 c2 hs0 hn0
          go_wp2
          go_roundw
          case rel => exact ⟨k + 1, by omega, by go_num, by rw [HW.out], HR.out.1, HR.out.2, .inr (by have := HC2.out; omega), fun j op hj ho => (by
            by_cases e : j = k
            · subst e; rw [HOP.out] at ho; cases ho; exact HC1.out
            · exact HSM.out j op (by omega) ho), by trivial⟩
          case measure => simp [intOf]; omega
    · obtain rfl : k = ops.length := by omega
      have hall : allN (ops.take ops.length) = allN ops := by rw [List.take_length]
      have h1 := HLO.out
      have h2 : allN ops < 4611686018427387904 := by
        have h3 := HUP.out
        have h4 := HF.out
        rw [hall] at h3
        rcases h4 with h4 | h4 <;> omega
      rw [hall] at h1 ⊢
      have H2 := Lib.hid (little_yes HSM.out HF.out)
      obtain ⟨s0, hs0⟩ : ∃ s0, allN ops = s0 := ⟨_, rfl⟩
      rw [hs0] at h1 ⊢
      have hd : decide (s0 < 4611686018427387904) = true := decide_eq_true (by rw [← hs0]; exact h2)
      clear h2 h1 hall hs0
      go_wp2
      go_ret
      exact ⟨by rw [H2.out]; rfl, rfl⟩
end
theorem shot_snoc {l h d : Int} {m : Nat} {rs : List RecH} {r : RecH} (rr : Sc.rightB l h d = true) (hok : ∀ q ∈ rs, OkR l h d q) (hr : OkR l h d r) (hi : r.i < m) :
    IntKind.u64.wrap ((shotR m rs).c + r.n) = (shotR m (rs ++ [r])).c ∧ IntKind.u64.wrap ((shotR m rs).su + IntKind.u64.wrap (r.v * r.n)) = (shotR m (rs ++ [r])).su ∧
    ((shotR m rs).le < 0 ∨ r.v < (shotR m rs).le → (shotR m (rs ++ [r])).le = r.v) ∧ (¬ ((shotR m rs).le < 0 ∨ r.v < (shotR m rs).le) → (shotR m (rs ++ [r])).le = (shotR m rs).le) ∧
    ((shotR m rs).gr < r.v → (shotR m (rs ++ [r])).gr = r.v) ∧ (¬ (shotR m rs).gr < r.v → (shotR m (rs ++ [r])).gr = (shotR m rs).gr) ∧
    (∃ x, (shotR m rs).bu[r.i]? = some x ∧ (shotR m rs).bu.set r.i (IntKind.u64.wrap (x + r.n)) = (shotR m (rs ++ [r])).bu) := by
  have hok2 : ∀ q ∈ rs ++ [r], OkR l h d q := fun q hq => by
    rcases List.mem_append.1 hq with hq | hq
    · exact hok q hq
    · rw [List.mem_singleton.1 hq]; exact hr
  obtain ⟨v0, v1', _, _⟩ := hr
  have hh := h_le rr
  have el : loR (rs ++ [r]) = min (loR rs) r.v := by rw [loR_app]; simp only [loR]; omega
  have eh : hiR (rs ++ [r]) = max (hiR rs) (r.v + 1) := by rw [hiR_app]; simp only [hiR]; omega
  have s1 := shot_ends (m := m) rr hok
  have s2 := shot_ends (m := m) rr hok2
  have hne : rs ++ [r] ≠ [] := by simp
  have s3 : (shotR m (rs ++ [r])).le = loR (rs ++ [r]) ∧ (shotR m (rs ++ [r])).gr = hiR (rs ++ [r]) - 1 := by
    rcases s2 with ⟨e, _⟩ | ⟨_, a, b, _⟩
    · exact absurd e hne
    · exact ⟨a, b⟩
  refine ⟨?_, ?_, ?_, ?_, ?_, ?_, ?_⟩
  · show IntKind.u64.wrap (IntKind.u64.wrap (tN rs) + r.n) = IntKind.u64.wrap (tN (rs ++ [r]))
    rw [tN_app, add_wrap]
    simp only [tN]
    congr 1
    omega
  · show IntKind.u64.wrap (IntKind.u64.wrap (tS rs) + IntKind.u64.wrap (r.v * r.n)) = IntKind.u64.wrap (tS (rs ++ [r]))
    rw [tS_app, add_wrap2]
    simp only [tS]
    congr 1
    omega
  · intro hc
    rw [s3.1, el]
    rcases s1 with ⟨e, a, _, b, _⟩ | ⟨_, a, _, b, _⟩ <;> omega
  · intro hc
    rw [s3.1, el]
    rcases s1 with ⟨e, a, _, b, _⟩ | ⟨_, a, _, b, _⟩ <;> omega
  · intro hc
    rw [s3.2, eh]
    rcases s1 with ⟨e, _, a, _, b⟩ | ⟨_, _, a, _, _, b, _⟩ <;> omega
  · intro hc
    rw [s3.2, eh]
    rcases s1 with ⟨e, _, a, _, b⟩ | ⟨_, _, a, _, _, b, _⟩ <;> omega
  · refine ⟨_, shot_get hi, ?_⟩
    apply List.ext_getElem?
    intro j
    by_cases hj : j < m
    · rw [shot_get hj, cN_app]
      by_cases e : r.i = j
      · subst e
        rw [List.getElem?_set_self (by rw [shot_len]; exact hi), add_wrap]
        simp only [cN, if_true]
        congr 2
        omega
      · rw [List.getElem?_set_ne e, shot_get hj]
        simp only [cN, if_neg e]
        congr 2
        omega
    · rw [List.getElem?_eq_none (by rw [List.length_set, shot_len]; omega), List.getElem?_eq_none (by rw [shot_len]; omega)]
/-- what a step never turns -/
def keyO (o : OpH) : Int × Int × Int × Nat := (o.k, o.v, o.n, o.i)
theorem key_step (m : Nat) (ws : List Int) (o : OpH) : keyO (stepH m ws o) = keyO o := by
  unfold keyO stepH
  repeat (first | rfl | split)
theorem key_set {os os0 : List OpH} {q : Nat} {o o' : OpH} (h : os.map keyO = os0.map keyO) (hq : os[q]? = some o) (hk : keyO o' = keyO o) : (os.set q o').map keyO = os0.map keyO := by
  rw [List.map_set, hk, ← h]
  apply List.ext_getElem?
  intro j
  by_cases e : q = j
  · subst e
    rw [List.getElem?_set_self (by simpa using lt_of_get hq), List.getElem?_map, hq]
    rfl
  · rw [List.getElem?_set_ne e]
theorem key_at {os os0 : List OpH} {q : Nat} {o : OpH} (h : os.map keyO = os0.map keyO) (hq : os[q]? = some o) : ∃ o0, os0[q]? = some o0 ∧ o0.k = o.k ∧ o0.v = o.v ∧ o0.n = o.n ∧ o0.i = o.i := by
  have h1 : (os.map keyO)[q]? = some (keyO o) := by simp [hq]
  rw [h] at h1
  simp only [List.getElem?_map, Option.map_eq_some_iff] at h1
  obtain ⟨o0, h2, h3⟩ := h1
  unfold keyO at h3
  simp only [Prod.mk.injEq] at h3
  exact ⟨o0, h2, h3.1, h3.2.1, h3.2.2.1, h3.2.2.2⟩
theorem Ag_key {os os0 : List OpH} (h : os.map keyO = os0.map keyO) : Ag os = Ag os0 := by
  have e : ∀ l : List OpH, Ag l = (l.map keyO).filterMap (fun p => if p.1 = 1 then some (⟨p.2.1, p.2.2.1, p.2.2.2⟩ : RecH) else none) := fun l => by
    unfold Ag
    rw [List.filterMap_map]
    rfl
  rw [e, e, h]
theorem Ag_take {os : List OpH} {q : Nat} {o : OpH} (hq : os[q]? = some o) : Ag (os.take (q + 1)) = Ag (os.take q) ++ (if o.k = 1 then [recO o] else []) := by
  rw [List.take_add_one, hq]
  unfold Ag
  rw [List.filterMap_append]
  congr 1
  by_cases h : o.k = 1 <;> simp [h]
theorem Ag_sum {l h d : Int} {ops : List (Int × Int × Int)} (rr : Sc.rightB l h d = true) (h0 : ∀ op ∈ ops, 0 ≤ op.2.2) : tN (Ag (pickO l h d ops)) ≤ allN ops := by
  induction ops with
  | nil => simp [pickO, Ag, tN, allN]
  | cons op t ih =>
    have a := ih (fun x hx => h0 x (List.mem_cons_of_mem _ hx))
    have b := h0 op (by simp)
    have e : allN (op :: t) = op.2.2 + allN t := by simp [allN]
    rw [e]
    unfold pickO at a ⊢
    rw [List.filterMap_cons]
    cases hR : rightO h op.1 op.2.1 op.2.2 with
    | false => simp; omega
    | true =>
      obtain ⟨_, _, _, _, _, _, g7, _⟩ := op_one rr hR
      have e2 : ∀ (x : OpH) (l : List OpH), Ag (x :: l) = (if x.k = 1 then [recO x] else []) ++ Ag l := fun x l => by
        unfold Ag
        rw [List.filterMap_cons]
        by_cases hk : x.k = 1 <;> simp [hk]
      simp only [if_true]
      rw [e2]
      split
      · rw [tN_app]
        simp only [tN]
        have : (recO (opH l d op.1 op.2.1 op.2.2)).n = op.2.2 := g7
        omega
      · rw [List.nil_append]
        omega
theorem pick_facts {l h d : Int} {ops : List (Int × Int × Int)} (rr : Sc.rightB l h d = true) (h0 : ∀ op ∈ ops, 0 ≤ op.2.2) : ∀ o ∈ pickO l h d ops, OneR (Sc.cnt l h d) o ∧ o.at_ = 0 ∧ o.en = false ∧ (o.k = 1 → OkR l h d (recO o)) := fun o ho => by
  unfold pickO at ho
  rw [List.mem_filterMap] at ho
  obtain ⟨op, h1, h2⟩ := ho
  cases hR : rightO h op.1 op.2.1 op.2.2 with
  | false => rw [hR] at h2; simp at h2
  | true =>
    rw [hR] at h2
    simp only [if_true, Option.some.injEq] at h2
    subst h2
    obtain ⟨_, g2, g3, g4, g5, _, _, g8⟩ := op_one rr hR
    refine ⟨g2, g3, g4, fun hk => ?_⟩
    rw [g5] at hk
    rcases g8 hk with g | g
    · exact g
    · have h1' := h0 op h1
      have h3 : op.2.2 ≠ 0 := by
        rw [hk] at hR
        exact (right_of_recF hR).2.2
      omega
theorem Ag_ok {l h d : Int} {os : List OpH} (h1 : ∀ o ∈ os, o.k = 1 → OkR l h d (recO o)) : ∀ r ∈ Ag os, OkR l h d r := fun r hr => by
  unfold Ag at hr
  rw [List.mem_filterMap] at hr
  obtain ⟨o, ho, e⟩ := hr
  by_cases hk : o.k = 1
  · rw [if_pos hk] at e
    cases e
    exact h1 o ho hk
  · rw [if_neg hk] at e
    cases e
/-- what HistStill's loops keep -/
structure StillW (W : World) (bh bk bw : Nat) (l h d : Int) (m : Nat) (ws : List Int) (os os0 : List OpH) (bs : List Nat) (xs : List (Value × ShM)) (vp vk : Value) (wr : World) : Prop where
  many : ManyH W bh bk bw l h d m ws os bs xs vp wr
  ks : wr.ownsRow W.heap.size 40 3 vk bs.length (hopCells os0)
  sc : Row wr W.heap.size 23 [.int .i64 l, .int .i64 h, .int .i64 d]
  key : os.map keyO = os0.map keyO
  crowd : CrowdR m os ws
  one : ∀ o, o ∈ os → OneR m o
section
variable {W wr w1 : World} {bh bk bw m q b : Nat} {l h d : Int} {ws : List Int} {os os0 : List OpH} {bs : List Nat} {xs : List (Value × ShM)} {vp vk : Value}
theorem StillW.on (hM : StillW W bh bk bw l h d m ws os os0 bs xs vp vk wr) (hb : Below wr.heap.size wr w1) : StillW W bh bk bw l h d m ws os os0 bs xs vp vk w1 :=
  ⟨hM.many.on hb, own_part hM.ks (Part.of_below hb (Nat.le_refl _) []) (by simp), hM.sc.below hb hM.sc.lt, hM.key, hM.crowd, hM.one⟩
theorem StillW.drew (hM : StillW W bh bk bw l h d m ws os os0 bs xs vp vk wr) : StillW W bh bk bw l h d m ws os os0 bs xs vp vk wr.drew := hM.on (Below.refl _ _).drew
/-- one is stepped: some blocks of its own turn, nothing else -/
theorem StillW.step {o : OpH} {x : Value × ShM} {e : Ending} (hM : StillW W bh bk bw l h d m ws os os0 bs xs vp vk wr) (hm : m ≠ 1) (hq : os[q]? = some o) (hb : bs[q]? = some b) (hx : xs[q]? = some x) (he : o.en = false) (hm0 : 0 < m) (hs : SteppedH wr b bh bk bw l h d m ws o x.2 e w1) :
    ∃ x', StillW W bh bk bw l h d m (stepW m ws o) (os.set q (stepH m ws o)) os0 bs (xs.set q x') vp vk w1 ∧ (∀ g, x'.2.bv.ownBlock = some g → x.2.bv.ownBlock = some g ∨ wr.heap.size ≤ g) ∧ ∃ T, (∀ r, r ∈ T → x.2.bv.ownBlock = some r) ∧ Part (b :: bw :: T) wr w1 := by
  obtain ⟨x', h1, h2, T, h3, h4⟩ := hM.many.step hm hq hb hx hs
  have hp := hM.many.pends.all q o b x hq hb hx
  have ho := hM.one o (List.mem_of_getElem? hq)
  refine ⟨x', ⟨h1, own_part hM.ks h4 (fun r hr hk => ?_), hM.sc.part h4 (fun hk => ?_), key_set hM.key hq (key_step m ws o), hM.crowd.step hq ho, fun y hy => ?_⟩, h2, T, h3, h4⟩
  · simp only [List.mem_cons] at hk
    rcases hk with rfl | rfl | hk
    · exact own_off hM.ks hp.row (by decide) _ hr rfl
    · exact own_off hM.ks hM.many.hist.words.row (by decide) _ hr rfl
    · obtain ⟨_, l', a1, _⟩ := hp.bu r (h3 r hk)
      exact own_off hM.ks a1 (by decide) _ hr rfl
  · simp only [List.mem_cons] at hk
    rcases hk with e' | e' | hk
    · exact hM.sc.ne hp.row (by decide) e'
    · exact hM.sc.ne hM.many.hist.words.row (by decide) e'
    · obtain ⟨_, l', a1, _⟩ := hp.bu _ (h3 _ hk)
      exact hM.sc.ne a1 (by decide) rfl
  · rcases List.mem_or_eq_of_mem_set hy with hy | rfl
    · exact hM.one y hy
    · exact ho.step (step_wf hm0 ho.wf he)
/-- behind what turns a block of the law's own -/
theorem StillW.off {g : Nat} {t : TypeId} {l' : List Value} (hM : StillW W bh bk bw l h d m ws os os0 bs xs vp vk wr) (hg : Row wr g t l') (hlo : W.heap.size ≤ g) (hP : Part [g] wr w1) (ht : t = 44 ∨ t = 40) (hks : ∀ q, vk.ownBlock = some q → q ≠ g) : StillW W bh bk bw l h d m ws os os0 bs xs vp vk w1 := by
  refine ⟨hM.many.off hg hlo hP ?_ ?_ ?_ ?_ ?_ ?_ (fun l' => ?_), own_part hM.ks hP (fun q hq => by simpa using hks q hq), hM.sc.part hP (by simpa using hM.sc.ne hg (by rcases ht with rfl | rfl <;> decide)), hM.key, hM.crowd, hM.one⟩
  all_goals rcases ht with rfl | rfl <;> first | decide | simp [boxB]
end
end Go.Proofs.Ytiifhkfkcljoiaa
