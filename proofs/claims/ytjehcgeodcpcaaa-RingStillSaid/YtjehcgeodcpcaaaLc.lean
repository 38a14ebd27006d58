/- THE WALK of 'near': adds whose ticks lie in one window, and that come to no more than a cell holds. -/
import Derived.Test.YtjehcgeodcpcaaaLa
import Derived.Test.YtjehcgeodcpcaaaEy
import Derived.Lib.MinMax
namespace Go.Proofs.Ytjehcgeodcpcaaa
open Go Go.RowKit

/-- a list of operations, as cells -/
def opCells (l : List (Int × Int × Int)) : List Value := l.flatMap fun op => [.int .u8 op.1, .int .i64 op.2.1, .int .u64 op.2.2]
theorem opCells_snoc (l : List (Int × Int × Int)) (k t m : Int) : opCells l ++ [.int .u8 k, .int .i64 t, .int .u64 m] = opCells (l ++ [(k, t, m)]) := by simp [opCells]
theorem opCells_get {l : List (Int × Int × Int)} : ∀ {q : Nat} {op : Int × Int × Int}, l[q]? = some op → (opCells l)[q * 3]? = some (.int .u8 op.1) ∧ (opCells l)[q * 3 + 1]? = some (.int .i64 op.2.1) ∧ (opCells l)[q * 3 + 2]? = some (.int .u64 op.2.2) := by
  induction l with
  | nil => intro q op h; simp at h
  | cons a l ih =>
    intro q op h
    have e : opCells (a :: l) = .int .u8 a.1 :: .int .i64 a.2.1 :: .int .u64 a.2.2 :: opCells l := rfl
    rw [e]
    cases q with
    | zero => simp at h; subst h; simp
    | succ q =>
      simp at h
      obtain ⟨h0, h1, h2⟩ := ih h
      have e0 : (q + 1) * 3 = q * 3 + 2 + 1 := by omega
      rw [e0]
      exact ⟨by simpa using h0, by simpa using h1, by simpa using h2⟩
theorem op_one (k t m : Int) : ∀ u ∈ [Value.int .u8 k, .int .i64 t, .int .u64 m], u.oneCell' = true := by
  intro u hu
  simp at hu
  rcases hu with rfl | rfl | rfl <;> rfl
theorem infoRO : (Try.prog.info? 39).map (fun i => (i.zero, i.size, i.bytes)) = some (some (.agg #[.int .u8 0, .int .i64 0, .int .u64 0]), 3, 24) := by kernel_rfl
/-- what all adds come to -/
def sumM (l : List (Int × Int × Int)) : Int := (l.map fun op => op.2.2).sum
theorem sumM_snoc (l : List (Int × Int × Int)) (op : Int × Int × Int) : sumM (l ++ [op]) = sumM l + op.2.2 := by simp [sumM]
/-- adds that lie near one another -/
structure NearOK (wd : Int) (n : Nat) (l : List (Int × Int × Int)) (tot lo hi : Int) : Prop where
  ops : ∀ op ∈ l, op.1 = 1 ∧ (0 ≤ op.2.1 ∧ op.2.1 ≤ 9223372036854775807) ∧ op.2.1 / wd ≤ 4294967295 ∧ (0 ≤ op.2.2 ∧ op.2.2 ≤ 4294967295) ∧ lo ≤ op.2.1 / wd ∧ op.2.1 / wd ≤ hi
  sm : sumM l = tot
  top : 0 ≤ tot ∧ tot ≤ 4294967295
  win : 0 ≤ lo ∧ lo ≤ hi ∧ hi ≤ 4294967295 ∧ hi - lo < n
theorem NearOK.nil {wd : Int} {n : Nat} (hn : 0 < n) : NearOK wd n [] 0 0 0 := ⟨by simp, rfl, by omega, by omega⟩
theorem NearOK.snoc {wd : Int} {n : Nat} {l : List (Int × Int × Int)} {tot lo hi lo' hi' t m q : Int} (h : NearOK wd n l tot lo hi) (ht : 0 ≤ t ∧ t ≤ 9223372036854775807) (hq : t / wd = q) (hq0 : 0 ≤ q) (hq1 : q ≤ 4294967295) (hm : 0 ≤ m) (hs : tot + m ≤ 4294967295)
    (hw : (l = [] ∧ lo' = q ∧ hi' = q ∧ 0 < n) ∨ (lo' = min lo q ∧ hi' = max hi q ∧ hi' - lo' < n)) : NearOK wd n (l ++ [(1, t, m)]) (tot + m) lo' hi' := by
  have h0 := h.top
  have h1 := h.win
  refine ⟨fun op hop => ?_, by rw [sumM_snoc, h.sm], by omega, ?_⟩
  · rcases List.mem_append.1 hop with hop | hop
    · obtain ⟨a, b, c, d, e, f⟩ := h.ops op hop
      refine ⟨a, b, c, d, ?_⟩
      rcases hw with ⟨rfl, _⟩ | ⟨rfl, rfl, _⟩
      · simp at hop
      · omega
    · simp at hop
      subst hop
      refine ⟨rfl, ht, by dsimp only; omega, by dsimp only; omega, ?_⟩
      dsimp only
      rcases hw with ⟨_, rfl, rfl, _⟩ | ⟨rfl, rfl, _⟩ <;> omega
  · rcases hw with ⟨_, rfl, rfl, _⟩ | ⟨rfl, rfl, _⟩ <;> omega
set_option maxRecDepth 100000
set_option maxHeartbeats 6400000
theorem near_any {w : World} {n : Nat} {wd : Int} (h1 : 1 ≤ n) (_h2 : n ≤ 4096) (h3 : 1 ≤ wd) (h4 : wd ≤ 1152921504606846976) {A : Option Addr} {cap : Nat} {ops : List (Int × Int × Int)} (hE : Ext3 .u8 .i64 .u64 w A ops) (hwf : ∀ op ∈ ops, op.2.1 ≤ 9223372036854775807 ∧ U64 op.2.2) (hr : ops.length * 24 ≤ 140737488351232) :
    Calls Try.prog 23 #[.int .i64 (n : Int), .int .i64 wd, .slice A ops.length cap] w fun e w' => ∃ v l tot lo hi, e = .returned v ∧ l.length ≤ ops.length ∧ w'.ownsRow w.heap.size 39 3 v l.length (opCells l) ∧ NearOK wd n l tot lo hi ∧ Below w.heap.size w w' := by
  obtain ⟨iR, hiR, hR0, hR1, hR2⟩ := info_parts infoRO
  have HE := Lib.hid hE
  have HWF := Lib.hid hwf
  have HN0 : Hid (NearOK wd n [] 0 0 0) := Lib.hid (NearOK.nil h1)
  clear hE hwf
  go_enter Try.func23, Try.ntmps23
  go_wp2
  go_loopw [7, 8, 9, 10, 16] (fun vo tt ll hh i wr => ∃ j : Nat, j ≤ ops.length ∧ i = .int .i64 j ∧ ∃ l tot lo hi, tt = .int .u64 tot ∧ ll = .int .i64 lo ∧ hh = .int .i64 hi ∧ l.length ≤ j ∧ wr.ownsRow w.heap.size 39 3 vo l.length (opCells l) ∧ NearOK wd n l tot lo hi ∧ Below w.heap.size w wr) (fun _ _ _ _ i _ => ops.length - (intOf i).toNat)
  case atStart => exact ⟨0, Nat.zero_le _, rfl, [], 0, 0, 0, rfl, rfl, rfl, Nat.le_refl _, World.ownsRow_nil _ _ _ _, HN0.out, Below.refl _ _⟩
  case round =>
    obtain ⟨j, hj, rfl, l, tot, lo, hi, rfl, rfl, rfl, hlj, hown, hN, hb⟩ := hrel
    have HOWN := Lib.hid hown
    have HNR := Lib.hid hN
    have HBL := Lib.hid hb
    have HLJ := Lib.hid hlj
    clear hown hN hb hlj HN0
    obtain ⟨av, cv, rfl⟩ := own_form HOWN.out
    by_cases hlt : j < ops.length
    · obtain ⟨op, hop⟩ : ∃ op, ops[j]? = some op := ⟨ops[j], List.getElem?_eq_getElem hlt⟩
      obtain ⟨b, o, rfl, hbl, e0, e1, e2⟩ := (HE.out.on HBL.out) j _ hop
      have hlt2 : (j : Int) < (ops.length : Int) := by omega
      have hj3 : j * 3 ≤ 17592186044416 := by omega
      obtain ⟨ht, hm⟩ := HWF.out op (List.mem_of_getElem? hop)
      have hm0 := hm.1
      have hm1 := hm.2
      have HT := Lib.hid ht
      clear hop ht hm
      obtain ⟨k, t, m⟩ := op
      dsimp only at e0 e1 e2 HT hm0 hm1
      have hO := Row.new wr 39 [.int .u8 k, .int .i64 t, .int .u64 m]
      have o0 := hO.cell 0
      have o1 := hO.cell 1
      have o2 := hO.cell 2
      have olt := hO.lt
      clear hO
      have t0 := HNR.out.top.1
      have t1 := HNR.out.top.2
      have hkeep : Hid (∃ jj : Nat, jj ≤ ops.length ∧ Value.int .i64 ((j : Int) + 1) = .int .i64 jj ∧ ∃ l' tot' lo' hi', Value.int .u64 tot = .int .u64 tot' ∧ Value.int .i64 lo = .int .i64 lo' ∧ Value.int .i64 hi = .int .i64 hi' ∧ l'.length ≤ jj ∧ (wr.alloc (.cells #[.int .u8 k, .int .i64 t, .int .u64 m] 39)).ownsRow w.heap.size 39 3 (.slice av l.length cv) l'.length (opCells l') ∧ NearOK wd n l' tot' lo' hi' ∧ Below w.heap.size w (wr.alloc (.cells #[.int .u8 k, .int .i64 t, .int .u64 m] 39))) := Lib.hid ⟨j + 1, by omega, by go_num, l, tot, lo, hi, rfl, rfl, rfl, by have := HLJ.out; omega, HOWN.out.alloc _, HNR.out, below_more HBL.out _⟩
      by_cases c1 : k = 1
      · subst c1
        by_cases c2 : t < 0
        · have d2 : decide (t < 0) = true := by simpa using c2
          clear c2
          go_wp2
          go_roundw
          case rel => exact hkeep.out
          case measure => simp [intOf]; omega
        have c2' : 0 ≤ t := by omega
        have d2 : decide (t < 0) = false := by simpa using c2'
        clear c2
        obtain ⟨q, hq⟩ : ∃ q, t / wd = q := ⟨_, rfl⟩
        have hq0 : 0 ≤ q := by rw [← hq]; exact Int.ediv_nonneg c2' (by omega)
        have hqt : q ≤ t := by rw [← hq]; exact Int.ediv_le_self _ c2'
        have hqq : Go.RowKit.wrap64 (t.tdiv wd) = q := by have := HT.out; rw [Int.tdiv_eq_ediv_of_nonneg c2', hq]; unfold Go.RowKit.wrap64; omega
        have HQT := Lib.hid hq
        clear hq
        by_cases c3 : 4294967295 < q
        · have d3 : decide (4294967295 < q) = true := by simpa using c3
          clear c3
          go_wp2
          go_roundw
          case rel => exact hkeep.out
          case measure => simp [intOf]; omega
        have d3 : decide (4294967295 < q) = false := by simpa using c3
        have HC3 : Hid (q ≤ 4294967295) := Lib.hid (by omega)
        clear c3
        by_cases c4 : 4294967295 < m
        · have d4 : decide (4294967295 < m) = true := by simpa using c4
          clear c4
          go_wp2
          go_roundw
          case rel => exact hkeep.out
          case measure => simp [intOf]; omega
        have d4 : decide (4294967295 < m) = false := by simpa using c4
        have hm2 : m ≤ 4294967295 := by omega
        clear c4
        by_cases c5 : 4294967295 < tot + m
        · have d5 : decide (4294967295 < tot + m) = true := by simpa using c5
          clear c5
          go_wp2
          go_roundw
          case rel => exact hkeep.out
          case measure => simp [intOf]; omega
        have d5 : decide (4294967295 < tot + m) = false := by simpa using c5
        have HC5 : Hid (tot + m ≤ 4294967295) := Lib.hid (by omega)
        clear c5
        have hq1 : q ≤ 4294967295 := HC3.out
        have HWIN := Lib.hid HNR.out.win
        have HREL : Hid (∀ lo' hi' w7 vo', NearOK wd n (l ++ [(1, t, m)]) (tot + m) lo' hi' → w7.ownsRow w.heap.size 39 3 vo' (l.length + 1) (opCells l ++ [.int .u8 1, .int .i64 t, .int .u64 m]) → ((wr.alloc (.cells #[.int .u8 1, .int .i64 t, .int .u64 m] 39)).alloc (.cells #[.int .u8 1, .int .i64 t, .int .u64 m] 39)).grownBy w7 (Value.slice av l.length cv).ownBlock → ∃ jj : Nat, jj ≤ ops.length ∧ Value.int .i64 ((j : Int) + 1) = .int .i64 jj ∧ ∃ l' tot' lo2 hi2, Value.int .u64 (tot + m) = .int .u64 tot' ∧ Value.int .i64 lo' = .int .i64 lo2 ∧ Value.int .i64 hi' = .int .i64 hi2 ∧ l'.length ≤ jj ∧ w7.ownsRow w.heap.size 39 3 vo' l'.length (opCells l') ∧ NearOK wd n l' tot' lo2 hi2 ∧ Below w.heap.size w w7) := Lib.hid (fun lo' hi' w7 vo' hn ho hg => ⟨j + 1, by omega, by go_num, l ++ [(1, t, m)], tot + m, lo', hi', rfl, rfl, rfl, by have := HLJ.out; rw [List.length_append, List.length_singleton]; omega, by rw [opCells_snoc] at ho; rw [List.length_append, List.length_singleton]; exact ho, hn, (below_more (below_more HBL.out _) _).grown hg (by have := HBL.out.size; simp; omega) (own_from HOWN.out)⟩)
        have HSN : Hid (∀ lo' hi', (l = [] ∧ lo' = q ∧ hi' = q ∧ 0 < n) ∨ (lo' = min lo q ∧ hi' = max hi q ∧ hi' - lo' < n) → NearOK wd n (l ++ [(1, t, m)]) (tot + m) lo' hi') := Lib.hid (fun lo' hi' h => HNR.out.snoc ⟨c2', HT.out⟩ HQT.out hq0 hq1 hm0 HC5.out h)
        by_cases hl0 : l.length = 0
        · have hl1 : l = [] := List.eq_nil_of_length_eq_zero hl0
          have HL1 := Lib.hid hl1
          clear hl1
          go_wp2_with (at_builtin; refine wpList_append_own _ rfl _ _ 22 rfl w.heap.size 39 iR (.agg #[.int .u8 0, .int .i64 0, .int .u64 0]) 3 24 Try.underlying22 hiR hR0 hR1 hR2 rfl (by decide) _ _ _ rfl ((HOWN.out.alloc _).alloc _) ⟨wr.heap.size + 1, 0, none⟩ 1 1 [.int .u8 1, .int .i64 t, .int .u64 m] rfl rfl (new_cells2 _ _ _ _) (op_one 1 t m) (by have := HLJ.out; unfold maxLen; omega) (by have := HLJ.out; omega) (by have := HBL.out.size; simp; omega) ?_; intro vo' w7 hown7 hgr7 _; have HO7 := Lib.hid hown7; have HG7 := Lib.hid hgr7; clear hown7 hgr7)
          go_roundw
          case rel => exact HREL.out _ _ _ _ (HSN.out _ _ (.inl ⟨HL1.out, rfl, rfl, h1⟩)) HO7.out HG7.out
          case measure => simp [intOf]; omega
        · have hl1 : 0 < (l.length : Int) := by omega
          have d6 : ((l.length : Int) == 0) = false := beq_false_of_ne (by omega)
          have w0 := HWIN.out.1
          have w1 := HWIN.out.2.1
          have w2 := HWIN.out.2.2.1
          have w3 : max hi q ≤ 4294967295 := by omega
          have w4 : 0 ≤ max hi q := by omega
          have w5 : min lo q ≤ 4294967295 := by omega
          have w6 : 0 ≤ min lo q := by omega
          have w7 : Go.RowKit.wrap64 (max hi q - min lo q) = max hi q - min lo q := by unfold Go.RowKit.wrap64; omega
          by_cases c7 : (n : Int) ≤ max hi q - min lo q
          · have d7 : decide ((n : Int) ≤ max hi q - min lo q) = true := by simpa using c7
            clear c7
            go_wp2
            go_roundw
            case rel => exact hkeep.out
            case measure => simp [intOf]; omega
          · have d7 : decide ((n : Int) ≤ max hi q - min lo q) = false := by simpa using c7
            have HC7 : Hid (max hi q - min lo q < n) := Lib.hid (by omega)
            clear c7
            go_wp2_with (at_builtin; refine wpList_append_own _ rfl _ _ 22 rfl w.heap.size 39 iR (.agg #[.int .u8 0, .int .i64 0, .int .u64 0]) 3 24 Try.underlying22 hiR hR0 hR1 hR2 rfl (by decide) _ _ _ rfl ((HOWN.out.alloc _).alloc _) ⟨wr.heap.size + 1, 0, none⟩ 1 1 [.int .u8 1, .int .i64 t, .int .u64 m] rfl rfl (new_cells2 _ _ _ _) (op_one 1 t m) (by have := HLJ.out; unfold maxLen; omega) (by have := HLJ.out; omega) (by have := HBL.out.size; simp; omega) ?_; intro vo' w7 hown7 hgr7 _; have HO7 := Lib.hid hown7; have HG7 := Lib.hid hgr7; clear hown7 hgr7)
            go_roundw
            case rel => exact HREL.out _ _ _ _ (HSN.out _ _ (.inr ⟨rfl, rfl, HC7.out⟩)) HO7.out HG7.out
            case measure => simp [intOf]; omega
      · have d1 : (k != 1) = true := by simpa using c1
        clear c1
        go_wp2
        go_roundw
        case rel => exact hkeep.out
        case measure => simp [intOf]; omega
    · obtain rfl : j = ops.length := by omega
      go_wp2
      go_ret
      exact ⟨_, l, tot, lo, hi, rfl, HLJ.out, HOWN.out, HNR.out, HBL.out⟩
end Go.Proofs.Ytjehcgeodcpcaaa
