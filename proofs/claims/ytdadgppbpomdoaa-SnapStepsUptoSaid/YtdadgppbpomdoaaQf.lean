/- THE DOCUMENT'S OWN scan. -/
import Derived.Test.YtdadgppbpomdoaaQe
import Derived.Deep.AppendLies
import Derived.Deep.RegionLaw
import Derived.Deep.RegionWith
namespace Go.Proofs.Ytdadgppbpomdoaa
open Go Go.RowKit
theorem LiesU.drew {w : World} {A : Option Addr} {xs : List Int} (h : LiesU w A xs) : LiesU w.drew A xs := h
theorem scan_box {w : World} (u : List Value) (k : Nat) {v : Value} (hk : u[k]? = some v) :
    (((w.alloc (.cells u.toArray 45)).alloc (.cells undO.toArray 45)).alloc (.cells didO.toArray 48)).drew.cell? ⟨w.heap.size, k, none⟩ = some v :=
  ((((Row.new w 45 u).alloc _).alloc _).drew.cell k).trans hk
theorem scan_box4 {w : World} (u : List Value) (k : Nat) {v : Value} (hk : u[k]? = some v) (o : Obj) :
    ((((w.alloc (.cells u.toArray 45)).alloc (.cells undO.toArray 45)).alloc (.cells didO.toArray 48)).alloc o).drew.cell? ⟨w.heap.size, k, none⟩ = some v :=
  (((((Row.new w 45 u).alloc _).alloc _).alloc _).drew.cell k).trans hk
theorem infoU8 : (Try.prog.info? 39).map (fun i => (i.zero, i.size, i.bytes)) = some (some (.int .u64 0), 1, 8) := by kernel_rfl
theorem PutR.grown {w wx wy : World} {A : Option Addr} {xs : List Int} {b0 b1 b2 b3 : Nat} {u d : List Value} {row : Option Nat} (h : PutR w A xs b0 b1 b2 b3 u d wx) (hA : LiesU w A xs) (hg : wx.grownBy wy row) (hr : ∀ q, row = some q → b3 < q) : PutR w A xs b0 b1 b2 b3 u d wy := by
  have g := h.gt
  have ne : ∀ b, b ≤ b3 → some b ≠ row := fun b hb e => by have := hr b e.symm; omega
  have hl := h.low.grown hg h.low.size (fun q e => by have := hr q e; omega)
  exact ⟨h.u.grown hg (ne _ (by omega)), h.ru.grown hg (ne _ (by omega)), h.rd.grown hg (ne _ (by omega)), h.d.grown hg (ne _ (by omega)), hA.below hl, g, hl⟩
theorem decide_and_eq {p q : Prop} [Decidable p] [Decidable q] (h : p) : decide (p ∧ q) = decide q := by simp [h]
theorem own_liesU' {w : World} {base n c : Nat} {e : TypeId} {A : Option Addr} {xs : List Int} (h : w.ownsRow base e 1 (.slice A n c) n (u64s xs)) : LiesU w A xs := own_liesU h
theorem scan_row {wc w1 w2 : World} {b3 n size : Nat} {e : TypeId} {v : Value} {xs : List Value} (h3 : b3 < wc.heap.size) (h : w1.ownsRow w2.heap.size e size v n xs) (hw : wc.heap.size ≤ w2.heap.size) : ∀ q, v.ownBlock = some q → b3 < q := fun q e => by
  have := own_from h q e
  omega
theorem scan_at {wc w1 w2 : World} {b3 n size g H : Nat} {e : TypeId} {v : Value} {xs : List Value} (h : w1.ownsRow w2.heap.size e size v n xs) (hw : wc.heap.size ≤ w2.heap.size) (h3 : b3 < wc.heap.size) (hH : b3 < H) (hat : v.ownBlock = some g ∨ g = H) : b3 < g := by
  rcases hat with e | e
  · exact scan_row h3 h hw g e
  · omega
set_option maxRecDepth 100000
set_option maxHeartbeats 6400000
/-- what scan leaves: it goes on, it begins anew, it has ended -/
def ScanD (w : World) (n : Nat) (la lw : List Int) (x t co : Int) (Al : Option Addr) (cal : Nat) (e : Ending) (w' : World) : Prop :=
  ∃ g5 c5, w.heap.size ≤ g5 ∧ w'.ownsRow w.heap.size 39 1 (.slice (some ⟨g5, 0, none⟩) (lw.length + 1) c5) (lw.length + 1) (u64s (lw ++ [x])) ∧ Below w.heap.size w w' ∧
    ((lw.length + 1 < n ∧ e = .returned (.tuple #[.agg (undD 3 0 0 t false 0 ((lw.length : Int) + 1) (.slice Al la.length cal) (.slice (some ⟨g5, 0, none⟩) (lw.length + 1) c5) false (.slice none 0 0) false co).toArray, .agg #[.int .u8 1, .int .i64 (lw.length : Int), .int .u64 x, .int .u64 x, .bool true]])) ∨
     (lw.length + 1 = n ∧ ¬ (1 < co + 1 ∧ lw ++ [x] = la) ∧ co + 1 ≠ t ∧ e = .returned (.tuple #[.agg (undD 3 0 0 t false 0 0 (.slice (some ⟨g5, 0, none⟩) (lw.length + 1) c5) (.slice none 0 0) false (.slice none 0 0) false (co + 1)).toArray, .agg #[.int .u8 1, .int .i64 (lw.length : Int), .int .u64 x, .int .u64 x, .bool true]])) ∨
     (lw.length + 1 = n ∧ ((1 < co + 1 ∧ lw ++ [x] = la) ∨ co + 1 = t) ∧ ∃ gr cr, w'.ownsRow w.heap.size 60 2 (.slice (some ⟨gr, 0, none⟩) n cr) n (regCells (lw ++ [x])) ∧ e = .returned (.tuple #[.agg (undD 3 0 0 t false 0 0 (.slice (some ⟨g5, 0, none⟩) (lw.length + 1) c5) (.slice none 0 0) true (.slice (some ⟨gr, 0, none⟩) n cr) (decide (1 < co + 1 ∧ lw ++ [x] = la)) (co + 1)).toArray, .agg #[.int .u8 1, .int .i64 (lw.length : Int), .int .u64 x, .int .u64 x, .bool true]])))
theorem dscan_any {w : World} {A An Al : Option Addr} {n c can cal : Nat} {xs la lw : List Int} {x t co : Int} (h : LiesU w A xs) (hn : xs.length = n) (hl : n ≤ 64) (hx : xs[lw.length]? = some x) (hw : LiesU w An lw) (ha : LiesU w Al la) (hla : la.length ≤ 64) (hxs : ∀ y ∈ lw ++ [x], U64 y) (hco : 0 ≤ co ∧ co ≤ 1024) :
    Calls Try.prog 34 #[.slice A n c, .agg (undD 3 0 0 t false 0 (lw.length : Int) (.slice Al la.length cal) (.slice An lw.length can) false (.slice none 0 0) false co).toArray] w (ScanD w n la lw x t co Al cal) := by
  obtain ⟨i0, hi, hz0, hz1, hz2⟩ := info_parts infoU8
  have hin := lt_of_get hx
  have HP := Lib.hid (putR_begin h (undD 3 0 0 t false 0 (lw.length : Int) (.slice Al la.length cal) (.slice An lw.length can) false (.slice none 0 0) false co) [.int .u8 1, .int .i64 (lw.length : Int), .int .u64 x, .int .u64 x, .bool true])
  have HX := Lib.hid hx
  have HXN := Lib.hid hn
  have HLW := Lib.hid hw
  have HLA := Lib.hid ha
  have HLAL := Lib.hid hla
  have HXS := Lib.hid hxs
  have HCO := Lib.hid hco
  have HL6 : Hid (lw.length ≤ 1000000) := Lib.hid (by omega)
  have H3 : Hid (lw.length + 1 ≤ maxLen) := Lib.hid (by unfold maxLen; omega)
  have H4 : Hid ((lw.length + 1) * 8 ≤ 140737488355328) := Lib.hid (by omega)
  have HLEN : Hid (lw.length + 1 ≤ n ∧ n ≤ 64) := Lib.hid (by omega)
  obtain ⟨g, rfl, hg, hc⟩ := h lw.length x hx
  have hlt : (lw.length : Int) < (n : Int) := by omega
  have HA : Hid (LiesU w (some ⟨g, 0, none⟩) xs) := Lib.hid (by assumption)
  clear hw ha hla hxs hco h hx hin hn hl
  unfold undD
  go_enter Try.func34, Try.ntmps34
  go_upto_region 1 with fail
  go_cut [6] (fun s6 wx => ∃ b0 b1 b2 b3, s6 = .pointer (some ⟨b3, 0, none⟩) ∧ b0 = w.heap.size ∧ b1 = w.heap.size + 1 ∧ b2 = w.heap.size + 1 + 1 ∧ PutR w (some ⟨g, 0, none⟩) xs b0 b1 b2 b3 (undD 3 0 0 t false 0 (lw.length : Int) (.slice Al la.length cal) (.slice An lw.length can) false (.slice none 0 0) false co) [.int .u8 1, .int .i64 (lw.length : Int), .int .u64 x, .int .u64 x, .bool true] wx)
  case first =>
    go_region_held3 (fun w' => w'.cell? ⟨g, lw.length, none⟩ = some (.int .u64 x) ∧ w'.cell? ⟨w.heap.size, 6, none⟩ = some (.int .i64 (lw.length : Int))) (first | exact ⟨put3_cell hg hc _, scan_box _ 6 rfl⟩ | exact ⟨put4_cell hg hc _ _, scan_box4 _ 6 rfl _⟩ | go_keep) (first | fail)
    all_goals
      go_wp2_with fail
      go_meet
      exact ⟨_, _, _, _, rfl, rfl, rfl, rfl, HP.out.drew⟩
  case rest =>
    obtain ⟨b0, b1, b2, b3, rfl, hb0, hb1, hb2, hP⟩ := hcut
    rw [← hb2, ← hb1, ← hb0]
    have HR := Lib.hid hP
    clear hP hb0 hb1 hb2
    obtain ⟨gt0, gt1, gt2, gt3⟩ := HR.out.gt
    have y10 : ¬ b1 = b0 := by omega
    have y20 : ¬ b2 = b0 := by omega
    have y12 : ¬ b1 = b2 := by omega
    have y21 : ¬ b2 = b1 := by omega
    have y13 : ¬ b1 = b3 := by omega
    have y31 : ¬ b3 = b1 := by omega
    have y23 : ¬ b2 = b3 := by omega
    have y32 : ¬ b3 = b2 := by omega
    have y01 : ¬ b0 = b1 := by omega
    have y02 : ¬ b0 = b2 := by omega
    have y03 : ¬ b0 = b3 := by omega
    have y30 : ¬ b3 = b0 := by omega
    have x0 := HR.out.u.lt
    have x1 := HR.out.ru.lt
    have x2 := HR.out.rd.lt
    have x3 := HR.out.d.lt
    have hu := HR.out.u
    have hru := HR.out.ru
    have hrd := HR.out.rd
    unfold undD at hu
    unfold undO undD at hru
    unfold didO at hrd
    obtain ⟨v0, v1, v2, v3, v4, v5, v6, v7, v8, v9, v10, v11, v12⟩ := hu.thirteen
    obtain ⟨q0, q1, q2, q3, q4, q5, q6, q7, q8, q9, q10, q11, q12⟩ := hru.thirteen
    obtain ⟨z0, z1, z2, z3, z4⟩ := hrd.five6
    obtain ⟨e0, e1, e2, e3, e4⟩ := HR.out.d.five6
    have uf := hu.free
    have qf := hru.free
    have zf := hrd.free
    have df := HR.out.d.free
    clear hu hru hrd
    go_upto_region 2 with fail
    go_cut [] (fun wx => ∃ g5 c5, w.heap.size ≤ g5 ∧ b3 < g5 ∧ PutR w (some ⟨g, 0, none⟩) xs b0 b1 b2 b3 (undD 3 0 0 t false 0 (lw.length : Int) (.slice Al la.length cal) (.slice (some ⟨g5, 0, none⟩) (lw.length + 1) c5) false (.slice none 0 0) false co) [.int .u8 1, .int .i64 (lw.length : Int), .int .u64 x, .int .u64 x, .bool true] wx ∧ wx.ownsRow w.heap.size 39 1 (.slice (some ⟨g5, 0, none⟩) (lw.length + 1) c5) (lw.length + 1) (u64s (lw ++ [x])))
    case first =>
      have HQA := Lib.hid HR.out.drew
      have HQB := Lib.hid (fun o => (HR.out.alloc HA.out o).drew)
      have HLC := Lib.hid ((HLW.out.below HR.out.low).drew)
      have HLD := Lib.hid (fun o => ((HLW.out.below HR.out.low).below ((Below.refl _ _).alloc (Nat.le_refl _) o)).drew)
      have HZ : Hid (Row ((wc.alloc (.cells #[.int .u64 x] 39)).drew) wc.heap.size 39 [.int .u64 x]) := Lib.hid (Row.new wc 39 [.int .u64 x])
      have hwl : w.heap.size ≤ wc.heap.size := HR.out.low.size
      go_region_law
        (first
        | ((refine step_append_lies _ (by rfl) _ _ _ (by rfl) w.heap.size 39 i0 _ 1 8 Try.underlying40 hi hz0 hz1 hz2 rfl (by omega) _ lw.length (u64s lw) (by rfl) (HO.out.alloc _) ⟨w1.heap.size, 0, none⟩ 1 1 [.int .u64 x] (by rfl) (by rfl) (World.news_of_block (cs := #[.int .u64 x]) (t := 39) (fr := (0, 0)) (heap_alloc_new w1 _)) (by simp [Value.oneCell']) (by omega) H3.out H4.out (by have := HC.out.low.size; simp; omega) (w1.heap.size + 1) (by simp) ?_; intro g5 c5 w6 hown6 hgr6 hat6 _; rw [u64s_snoc] at hown6; have HE := Lib.hid ((HC.out.alloc HA.out _).grown HA.out hgr6 (scan_row HR.out.d.lt HOW.out (Nat.le_refl _))); have HO6 := Lib.hid hown6; have HAT := Lib.hid (scan_at (b3 := b3) HOW.out (Nat.le_refl _) HR.out.d.lt (Nat.lt_of_lt_of_le HR.out.d.lt (Nat.le_trans w1lt (Nat.le_succ _))) hat6); have f2 : w6.cell? ⟨b3, 2, none⟩ = some (.int .u64 x) := HE.out.d.cell 2; have y8 : w6.cell? ⟨b0, 8, none⟩ = some (.slice An lw.length can) := HE.out.u.cell 8; have yf := HE.out.u.free; clear hown6 hgr6 hat6))
        | ((refine step_append_lies _ (by rfl) _ _ _ (by rfl) w.heap.size 39 i0 _ 1 8 Try.underlying40 hi hz0 hz1 hz2 rfl (by omega) _ lw.length (u64s lw) (by rfl) HO.out ⟨wc.heap.size, 0, none⟩ 1 1 [.int .u64 x] (by rfl) (by rfl) (World.news_of_block (cs := #[.int .u64 x]) (t := 39) (fr := (0, 0)) HZ1.out) (by simp [Value.oneCell']) (by omega) H3.out H4.out HD.out.low.size w1.heap.size rfl ?_; intro g5 c5 w6 hown6 hgr6 hat6 _; rw [u64s_snoc] at hown6; have HE := Lib.hid (HD.out.grown HA.out hgr6 (scan_row HR.out.d.lt HOW.out (by simp))); have HO6 := Lib.hid hown6; have HAT := Lib.hid (scan_at (b3 := b3) HOW.out (by simp) HR.out.d.lt (Nat.lt_of_lt_of_le (Nat.lt_succ_of_lt HR.out.d.lt) (by simpa using w1lt)) hat6); have f2 : w6.cell? ⟨b3, 2, none⟩ = some (.int .u64 x) := HE.out.d.cell 2; have y8 : w6.cell? ⟨b0, 8, none⟩ = some (.slice An lw.length can) := HE.out.u.cell 8; have yf := HE.out.u.free; clear hown6 hgr6 hat6))
        | (go_simp; go_at_call 50; (with_reducible refine (dcopy_any HLC.out rfl HL6.out).mono ?_); rintro e w1 ⟨v5, rfl, hown, hb1⟩; have HC := Lib.hid (HQA.out.on HA.out hb1); have HOW := Lib.hid hown; have HO := Lib.hid (ownsRow_base hown hwl); have f2 : w1.cell? ⟨b3, 2, none⟩ = some (.int .u64 x) := HC.out.d.cell 2; have w1lt := hb1.size; clear hb1 hown)
        | (go_simp; go_at_call 50; (with_reducible refine (dcopy_any (HLD.out _) rfl HL6.out).mono ?_); rintro e w1 ⟨v5, rfl, hown, hb1⟩; have HD := Lib.hid ((HQB.out _).on HA.out hb1); have HOW := Lib.hid hown; have HO := Lib.hid (ownsRow_base hown (Nat.le_trans hwl (by simp))); have HZ1 := Lib.hid (HZ.out.below hb1 HZ.out.lt); have f2 : w1.cell? ⟨b3, 2, none⟩ = some (.int .u64 x) := HD.out.d.cell 2; have w1lt := hb1.size; clear hb1 hown))
      all_goals
        go_wp2_with fail
        go_meet
        exact ⟨g5, c5, own_from HO6.out g5 rfl, HAT.out, HE.out.setU HA.out 8 _, own_far HO6.out (by have := HAT.out; omega) _⟩
    case rest =>
      obtain ⟨g5, c5, hg5, hg53, hP, hO⟩ := hcut
      have HR2 := Lib.hid hP
      have HO2 := Lib.hid hO
      have hlw := HLEN.out
      have hco := HCO.out
      clear hP hO x0 x1 x2 x3 v0 v1 v2 v3 v4 v5 v6 v7 v8 v9 v10 v11 v12 q0 q1 q2 q3 q4 q5 q6 q7 q8 q9 q10 q11 q12 z0 z1 z2 z3 z4 e0 e1 e2 e3 e4 uf qf zf df
      have x0 := HR2.out.u.lt
      have x1 := HR2.out.ru.lt
      have x2 := HR2.out.rd.lt
      have x3 := HR2.out.d.lt
      have hu := HR2.out.u
      have hru := HR2.out.ru
      have hrd := HR2.out.rd
      unfold undD at hu
      unfold undO undD at hru
      unfold didO at hrd
      obtain ⟨v0, v1, v2, v3, v4, v5, v6, v7, v8, v9, v10, v11, v12⟩ := hu.thirteen
      obtain ⟨q0, q1, q2, q3, q4, q5, q6, q7, q8, q9, q10, q11, q12⟩ := hru.thirteen
      obtain ⟨z0, z1, z2, z3, z4⟩ := hrd.five6
      obtain ⟨e0, e1, e2, e3, e4⟩ := HR2.out.d.five6
      have uf := hu.free
      have qf := hru.free
      have zf := hrd.free
      have df := HR2.out.d.free
      clear hu hru hrd
      by_cases hm : lw.length + 1 < n
      · have hmi : (lw.length : Int) + 1 < (n : Int) := by omega
        have HM := Lib.hid hm
        go_wp2
        go_region
        all_goals
          go_wp2
          refine bodyPost_ret (v := .tuple #[.agg #[.int .u8 3, .int .i64 0, .int .u32 0, .int .i64 t, .bool false, .int .u64 0, .int .i64 ((lw.length : Int) + 1), (.slice Al la.length cal), (.slice (some ⟨g5, 0, none⟩) (lw.length + 1) c5), .bool false, (.slice none 0 0), .bool false, .int .i64 co], .agg #[.int .u8 1, .int .i64 (lw.length : Int), .int .u64 x, .int .u64 x, .bool true]]) (by simp [results, Try.results34, go_sem, q0, q1, q2, q3, q4, q5, q6, q7, q8, q9, q10, q11, q12, z0, z1, z2, z3, z4, y10, y20, y12, y21]) rfl ⟨g5, c5, hg5, ?_, ?_, .inl ⟨HM.out, rfl⟩⟩
          · repeat (first | (with_reducible exact HO2.out) | (with_reducible refine own_drew ?_) | (with_reducible refine own_drewN ?_ _) | refine own_far ?_ (by omega) _)
          · repeat (first | (with_reducible exact HR2.out.low) | (with_reducible refine Below.drew ?_) | (with_reducible refine Below.draws ?_ _) | refine Below.setCell ?_ (by (try simp); omega) _)
      · have hnm : ¬ (lw.length : Int) + 1 < (n : Int) := by omega
        have HNE : Hid (lw.length + 1 = n) := Lib.hid (by omega)
        have HLNN : Hid ((lw ++ [x]).length = n) := Lib.hid (by simp; omega)
        have HLNE : Hid ((lw ++ [x]).length = lw.length + 1) := Lib.hid (by simp)
        have HL65 : Hid (lw.length + 1 ≤ 1000000) := Lib.hid (by omega)
        have HN0 : Hid (0 < n) := Lib.hid (by omega)
        clear hm
        go_upto_region 8 with fail
        go_cut [7] (fun s7 wx => s7 = .bool (decide (1 < co + 1 ∧ lw ++ [x] = la)) ∧ PutR w (some ⟨g, 0, none⟩) xs b0 b1 b2 b3 (undD 3 0 0 t false 0 0 (.slice Al la.length cal) (.slice (some ⟨g5, 0, none⟩) (lw.length + 1) c5) false (.slice none 0 0) false (co + 1)) [.int .u8 1, .int .i64 (lw.length : Int), .int .u64 x, .int .u64 x, .bool true] wx ∧ wx.ownsRow w.heap.size 39 1 (.slice (some ⟨g5, 0, none⟩) (lw.length + 1) c5) (lw.length + 1) (u64s (lw ++ [x])))
        case first =>
          have PB := Lib.hid (((HR2.out.setU HA.out 6 (.int .i64 ((lw.length : Int) + 1))).setU HA.out 6 (.int .i64 0)).setU HA.out 12 (.int .i64 (co + 1)))
          have OB := Lib.hid (own_far (k := 12) (own_far (k := 6) (own_far (k := 6) HO2.out (show b0 ≠ g5 by omega) (.int .i64 ((lw.length : Int) + 1))) (show b0 ≠ g5 by omega) (.int .i64 0)) (show b0 ≠ g5 by omega) (.int .i64 (co + 1)))
          by_cases hgt : 1 < co + 1
          · have hgb : decide (1 < co + 1) = true := by simpa using hgt
            have HGT := Lib.hid hgt
            clear hgt
            go_wp2_with (go_at_call 52; refine (dusame_any (own_liesU OB.out) (HLA.out.below PB.out.low) (by simp) rfl (by omega)).mono ?_; rintro e w7 ⟨rfl, m7, rfl⟩)
            go_meet
            exact ⟨by rw [decide_and_eq HGT.out], PB.out.on HA.out (Below.draws (Below.refl _ _) m7), own_drewN OB.out m7⟩
          · have hgb : decide (1 < co + 1) = false := by simpa using hgt
            have HGT := Lib.hid hgt
            clear hgt
            go_wp2
            go_meet
            exact ⟨by rw [decide_eq_false (fun e => by have := HGT.out; have := e.1; omega)], PB.out, OB.out⟩
        case rest =>
          obtain ⟨rfl, hP, hO⟩ := hcut
          obtain ⟨cb, hcb⟩ : ∃ cb, decide (1 < co + 1 ∧ lw ++ [x] = la) = cb := ⟨_, rfl⟩
          rw [hcb]
          have HCB := Lib.hid hcb
          have HR3 := Lib.hid hP
          have HO3 := Lib.hid hO
          clear hP hO hcb x0 x1 x2 x3 v0 v1 v2 v3 v4 v5 v6 v7 v8 v9 v10 v11 v12 q0 q1 q2 q3 q4 q5 q6 q7 q8 q9 q10 q11 q12 z0 z1 z2 z3 z4 e0 e1 e2 e3 e4 uf qf zf df
          have x0 := HR3.out.u.lt
          have x1 := HR3.out.ru.lt
          have x2 := HR3.out.rd.lt
          have x3 := HR3.out.d.lt
          have hu := HR3.out.u
          have hru := HR3.out.ru
          have hrd := HR3.out.rd
          unfold undD at hu
          unfold undO undD at hru
          unfold didO at hrd
          obtain ⟨v0, v1, v2, v3, v4, v5, v6, v7, v8, v9, v10, v11, v12⟩ := hu.thirteen
          obtain ⟨q0, q1, q2, q3, q4, q5, q6, q7, q8, q9, q10, q11, q12⟩ := hru.thirteen
          obtain ⟨z0, z1, z2, z3, z4⟩ := hrd.five6
          obtain ⟨e0, e1, e2, e3, e4⟩ := HR3.out.d.five6
          have uf := hu.free
          have qf := hru.free
          have zf := hrd.free
          have df := HR3.out.d.free
          clear hu hru hrd
          cases cb with
          | true =>
            have HW : Hid ((1 < co + 1 ∧ lw ++ [x] = la) ∨ co + 1 = t) := Lib.hid (.inl (of_decide_eq_true HCB.out))
            go_upto_region 13 with fail
            go_cut [] (fun wx => PutR w (some ⟨g, 0, none⟩) xs b0 b1 b2 b3 (undD 3 0 0 t false 0 0 (.slice (some ⟨g5, 0, none⟩) (lw.length + 1) c5) (.slice none 0 0) true (.slice none 0 0) true (co + 1)) [.int .u8 1, .int .i64 (lw.length : Int), .int .u64 x, .int .u64 x, .bool true] wx ∧ wx.ownsRow w.heap.size 39 1 (.slice (some ⟨g5, 0, none⟩) (lw.length + 1) c5) (lw.length + 1) (u64s (lw ++ [x])))
            case first =>
              have PB := Lib.hid ((((HR3.out.setU HA.out 7 (.slice (some ⟨g5, 0, none⟩) (lw.length + 1) c5)).setU HA.out 8 (.slice none 0 0)).setU HA.out 9 (.bool true)).setU HA.out 11 (.bool true))
              have OB := Lib.hid (own_far (k := 11) (own_far (k := 9) (own_far (k := 8) (own_far (k := 7) HO3.out (show b0 ≠ g5 by omega) (.slice (some ⟨g5, 0, none⟩) (lw.length + 1) c5)) (show b0 ≠ g5 by omega) (.slice none 0 0)) (show b0 ≠ g5 by omega) (.bool true)) (show b0 ≠ g5 by omega) (.bool true))
              go_wp2
              go_meet
              exact ⟨PB.out, OB.out⟩
            case rest =>
              obtain ⟨hP, hO⟩ := hcut
              have HR5 := Lib.hid hP
              have HO5 := Lib.hid hO
              clear hP hO x0 x1 x2 x3 v0 v1 v2 v3 v4 v5 v6 v7 v8 v9 v10 v11 v12 q0 q1 q2 q3 q4 q5 q6 q7 q8 q9 q10 q11 q12 z0 z1 z2 z3 z4 e0 e1 e2 e3 e4 uf qf zf df
              have x0 := HR5.out.u.lt
              have x1 := HR5.out.ru.lt
              have x2 := HR5.out.rd.lt
              have x3 := HR5.out.d.lt
              have hu := HR5.out.u
              have hru := HR5.out.ru
              have hrd := HR5.out.rd
              unfold undD at hu
              unfold undO undD at hru
              unfold didO at hrd
              obtain ⟨v0, v1, v2, v3, v4, v5, v6, v7, v8, v9, v10, v11, v12⟩ := hu.thirteen
              obtain ⟨q0, q1, q2, q3, q4, q5, q6, q7, q8, q9, q10, q11, q12⟩ := hru.thirteen
              obtain ⟨z0, z1, z2, z3, z4⟩ := hrd.five6
              obtain ⟨e0, e1, e2, e3, e4⟩ := HR5.out.d.five6
              have uf := hu.free
              have qf := hru.free
              have zf := hrd.free
              have df := HR5.out.d.free
              clear hu hru hrd
              go_upto_region 14 with fail
              go_cut [] (fun wx => ∃ gr cr, b3 < gr ∧ PutR w (some ⟨g, 0, none⟩) xs b0 b1 b2 b3 (undD 3 0 0 t false 0 0 (.slice (some ⟨g5, 0, none⟩) (lw.length + 1) c5) (.slice none 0 0) true (.slice (some ⟨gr, 0, none⟩) n cr) true (co + 1)) [.int .u8 1, .int .i64 (lw.length : Int), .int .u64 x, .int .u64 x, .bool true] wx ∧ wx.ownsRow w.heap.size 39 1 (.slice (some ⟨g5, 0, none⟩) (lw.length + 1) c5) (lw.length + 1) (u64s (lw ++ [x])) ∧ wx.ownsRow w.heap.size 60 2 (.slice (some ⟨gr, 0, none⟩) n cr) n (regCells (lw ++ [x])))
              case first =>
                have hwl : w.heap.size ≤ wc.heap.size := HR5.out.low.size
                go_wp2_with (go_at_call 21; refine (dall_any (own_liesU HO5.out) HXS.out HLNE.out HL65.out).mono ?_; rintro e w7 ⟨v7, rfl, hown7, hb7⟩; rw [HLNN.out] at hown7; obtain ⟨gr, cr, e7, hgr, hgrl⟩ := own_some hown7 HN0.out; subst e7; have HO7 := Lib.hid hown7; have HC7 := Lib.hid (HR5.out.on HA.out hb7); have HON := Lib.hid (own_part HO5.out (Part.of_below hb7 (Nat.le_refl _) []) (by simp)); have hgr3 : b3 < gr := (by omega); have y7 : w7.cell? ⟨b0, 10, none⟩ = some (.slice none 0 0) := HC7.out.u.cell 10; have yf7 := HC7.out.u.free; have x07 := HC7.out.u.lt; clear hown7 hb7)
                go_meet
                exact ⟨gr, cr, hgr3, HC7.out.setU HA.out 10 _, own_far HON.out (by omega) _, own_far (ownsRow_base HO7.out hwl) (by omega) _⟩
              case rest =>
                obtain ⟨gr, cr, hgr3, hP, hO, hRG⟩ := hcut
                have HR4 := Lib.hid hP
                have HO4 := Lib.hid hO
                have HRG := Lib.hid hRG
                clear hP hO hRG x0 x1 x2 x3 v0 v1 v2 v3 v4 v5 v6 v7 v8 v9 v10 v11 v12 q0 q1 q2 q3 q4 q5 q6 q7 q8 q9 q10 q11 q12 z0 z1 z2 z3 z4 e0 e1 e2 e3 e4 uf qf zf df
                have x0 := HR4.out.u.lt
                have x1 := HR4.out.ru.lt
                have x2 := HR4.out.rd.lt
                have x3 := HR4.out.d.lt
                have hu := HR4.out.u
                have hru := HR4.out.ru
                have hrd := HR4.out.rd
                unfold undD at hu
                unfold undO undD at hru
                unfold didO at hrd
                obtain ⟨v0, v1, v2, v3, v4, v5, v6, v7, v8, v9, v10, v11, v12⟩ := hu.thirteen
                obtain ⟨q0, q1, q2, q3, q4, q5, q6, q7, q8, q9, q10, q11, q12⟩ := hru.thirteen
                obtain ⟨z0, z1, z2, z3, z4⟩ := hrd.five6
                obtain ⟨e0, e1, e2, e3, e4⟩ := HR4.out.d.five6
                have uf := hu.free
                have qf := hru.free
                have zf := hrd.free
                have df := HR4.out.d.free
                clear hu hru hrd
                go_wp2
                go_region
                all_goals
                  go_wp2
                  refine bodyPost_ret (v := .tuple #[.agg #[.int .u8 3, .int .i64 0, .int .u32 0, .int .i64 t, .bool false, .int .u64 0, .int .i64 0, (.slice (some ⟨g5, 0, none⟩) (lw.length + 1) c5), (.slice none 0 0), .bool true, (.slice (some ⟨gr, 0, none⟩) n cr), .bool true, .int .i64 (co + 1)], .agg #[.int .u8 1, .int .i64 (lw.length : Int), .int .u64 x, .int .u64 x, .bool true]]) (by simp [results, Try.results34, go_sem, q0, q1, q2, q3, q4, q5, q6, q7, q8, q9, q10, q11, q12, z0, z1, z2, z3, z4, y10, y20, y12, y21]) rfl ⟨g5, c5, hg5, ?_, ?_, .inr (.inr ⟨HNE.out, HW.out, gr, cr, ?_, by rw [HCB.out]; rfl⟩)⟩
                  · repeat (first | (with_reducible exact HO4.out) | (with_reducible refine own_drew ?_) | (with_reducible refine own_drewN ?_ _) | refine own_far ?_ (by omega) _)
                  · repeat (first | (with_reducible exact HR4.out.low) | (with_reducible refine Below.drew ?_) | (with_reducible refine Below.draws ?_ _) | refine Below.setCell ?_ (by (try simp); omega) _)
                  · repeat (first | (with_reducible exact HRG.out) | (with_reducible refine own_drew ?_) | (with_reducible refine own_drewN ?_ _) | refine own_far ?_ (by omega) _)
          | false =>
            by_cases ht : co + 1 = t
            · have htb : (co + 1 == t) = true := by simpa using ht
              have HW : Hid ((1 < co + 1 ∧ lw ++ [x] = la) ∨ co + 1 = t) := Lib.hid (.inr ht)
              clear ht
              go_upto_region 13 with fail
              go_cut [] (fun wx => PutR w (some ⟨g, 0, none⟩) xs b0 b1 b2 b3 (undD 3 0 0 t false 0 0 (.slice (some ⟨g5, 0, none⟩) (lw.length + 1) c5) (.slice none 0 0) true (.slice none 0 0) false (co + 1)) [.int .u8 1, .int .i64 (lw.length : Int), .int .u64 x, .int .u64 x, .bool true] wx ∧ wx.ownsRow w.heap.size 39 1 (.slice (some ⟨g5, 0, none⟩) (lw.length + 1) c5) (lw.length + 1) (u64s (lw ++ [x])))
              case first =>
                have PB := Lib.hid ((((HR3.out.setU HA.out 7 (.slice (some ⟨g5, 0, none⟩) (lw.length + 1) c5)).setU HA.out 8 (.slice none 0 0)).setU HA.out 9 (.bool true)).setU HA.out 11 (.bool false))
                have OB := Lib.hid (own_far (k := 11) (own_far (k := 9) (own_far (k := 8) (own_far (k := 7) HO3.out (show b0 ≠ g5 by omega) (.slice (some ⟨g5, 0, none⟩) (lw.length + 1) c5)) (show b0 ≠ g5 by omega) (.slice none 0 0)) (show b0 ≠ g5 by omega) (.bool true)) (show b0 ≠ g5 by omega) (.bool false))
                go_wp2
                go_meet
                exact ⟨PB.out, OB.out⟩
              case rest =>
                obtain ⟨hP, hO⟩ := hcut
                have HR5 := Lib.hid hP
                have HO5 := Lib.hid hO
                clear hP hO x0 x1 x2 x3 v0 v1 v2 v3 v4 v5 v6 v7 v8 v9 v10 v11 v12 q0 q1 q2 q3 q4 q5 q6 q7 q8 q9 q10 q11 q12 z0 z1 z2 z3 z4 e0 e1 e2 e3 e4 uf qf zf df
                have x0 := HR5.out.u.lt
                have x1 := HR5.out.ru.lt
                have x2 := HR5.out.rd.lt
                have x3 := HR5.out.d.lt
                have hu := HR5.out.u
                have hru := HR5.out.ru
                have hrd := HR5.out.rd
                unfold undD at hu
                unfold undO undD at hru
                unfold didO at hrd
                obtain ⟨v0, v1, v2, v3, v4, v5, v6, v7, v8, v9, v10, v11, v12⟩ := hu.thirteen
                obtain ⟨q0, q1, q2, q3, q4, q5, q6, q7, q8, q9, q10, q11, q12⟩ := hru.thirteen
                obtain ⟨z0, z1, z2, z3, z4⟩ := hrd.five6
                obtain ⟨e0, e1, e2, e3, e4⟩ := HR5.out.d.five6
                have uf := hu.free
                have qf := hru.free
                have zf := hrd.free
                have df := HR5.out.d.free
                clear hu hru hrd
                go_upto_region 14 with fail
                go_cut [] (fun wx => ∃ gr cr, b3 < gr ∧ PutR w (some ⟨g, 0, none⟩) xs b0 b1 b2 b3 (undD 3 0 0 t false 0 0 (.slice (some ⟨g5, 0, none⟩) (lw.length + 1) c5) (.slice none 0 0) true (.slice (some ⟨gr, 0, none⟩) n cr) false (co + 1)) [.int .u8 1, .int .i64 (lw.length : Int), .int .u64 x, .int .u64 x, .bool true] wx ∧ wx.ownsRow w.heap.size 39 1 (.slice (some ⟨g5, 0, none⟩) (lw.length + 1) c5) (lw.length + 1) (u64s (lw ++ [x])) ∧ wx.ownsRow w.heap.size 60 2 (.slice (some ⟨gr, 0, none⟩) n cr) n (regCells (lw ++ [x])))
                case first =>
                  have hwl : w.heap.size ≤ wc.heap.size := HR5.out.low.size
                  go_wp2_with (go_at_call 21; refine (dall_any (own_liesU HO5.out) HXS.out HLNE.out HL65.out).mono ?_; rintro e w7 ⟨v7, rfl, hown7, hb7⟩; rw [HLNN.out] at hown7; obtain ⟨gr, cr, e7, hgr, hgrl⟩ := own_some hown7 HN0.out; subst e7; have HO7 := Lib.hid hown7; have HC7 := Lib.hid (HR5.out.on HA.out hb7); have HON := Lib.hid (own_part HO5.out (Part.of_below hb7 (Nat.le_refl _) []) (by simp)); have hgr3 : b3 < gr := (by omega); have y7 : w7.cell? ⟨b0, 10, none⟩ = some (.slice none 0 0) := HC7.out.u.cell 10; have yf7 := HC7.out.u.free; have x07 := HC7.out.u.lt; clear hown7 hb7)
                  go_meet
                  exact ⟨gr, cr, hgr3, HC7.out.setU HA.out 10 _, own_far HON.out (by omega) _, own_far (ownsRow_base HO7.out hwl) (by omega) _⟩
                case rest =>
                  obtain ⟨gr, cr, hgr3, hP, hO, hRG⟩ := hcut
                  have HR4 := Lib.hid hP
                  have HO4 := Lib.hid hO
                  have HRG := Lib.hid hRG
                  clear hP hO hRG x0 x1 x2 x3 v0 v1 v2 v3 v4 v5 v6 v7 v8 v9 v10 v11 v12 q0 q1 q2 q3 q4 q5 q6 q7 q8 q9 q10 q11 q12 z0 z1 z2 z3 z4 e0 e1 e2 e3 e4 uf qf zf df
                  have x0 := HR4.out.u.lt
                  have x1 := HR4.out.ru.lt
                  have x2 := HR4.out.rd.lt
                  have x3 := HR4.out.d.lt
                  have hu := HR4.out.u
                  have hru := HR4.out.ru
                  have hrd := HR4.out.rd
                  unfold undD at hu
                  unfold undO undD at hru
                  unfold didO at hrd
                  obtain ⟨v0, v1, v2, v3, v4, v5, v6, v7, v8, v9, v10, v11, v12⟩ := hu.thirteen
                  obtain ⟨q0, q1, q2, q3, q4, q5, q6, q7, q8, q9, q10, q11, q12⟩ := hru.thirteen
                  obtain ⟨z0, z1, z2, z3, z4⟩ := hrd.five6
                  obtain ⟨e0, e1, e2, e3, e4⟩ := HR4.out.d.five6
                  have uf := hu.free
                  have qf := hru.free
                  have zf := hrd.free
                  have df := HR4.out.d.free
                  clear hu hru hrd
                  go_wp2
                  go_region
                  all_goals
                    go_wp2
                    refine bodyPost_ret (v := .tuple #[.agg #[.int .u8 3, .int .i64 0, .int .u32 0, .int .i64 t, .bool false, .int .u64 0, .int .i64 0, (.slice (some ⟨g5, 0, none⟩) (lw.length + 1) c5), (.slice none 0 0), .bool true, (.slice (some ⟨gr, 0, none⟩) n cr), .bool false, .int .i64 (co + 1)], .agg #[.int .u8 1, .int .i64 (lw.length : Int), .int .u64 x, .int .u64 x, .bool true]]) (by simp [results, Try.results34, go_sem, q0, q1, q2, q3, q4, q5, q6, q7, q8, q9, q10, q11, q12, z0, z1, z2, z3, z4, y10, y20, y12, y21]) rfl ⟨g5, c5, hg5, ?_, ?_, .inr (.inr ⟨HNE.out, HW.out, gr, cr, ?_, by rw [HCB.out]; rfl⟩)⟩
                    · repeat (first | (with_reducible exact HO4.out) | (with_reducible refine own_drew ?_) | (with_reducible refine own_drewN ?_ _) | refine own_far ?_ (by omega) _)
                    · repeat (first | (with_reducible exact HR4.out.low) | (with_reducible refine Below.drew ?_) | (with_reducible refine Below.draws ?_ _) | refine Below.setCell ?_ (by (try simp); omega) _)
                    · repeat (first | (with_reducible exact HRG.out) | (with_reducible refine own_drew ?_) | (with_reducible refine own_drewN ?_ _) | refine own_far ?_ (by omega) _)
            · have htb : (co + 1 == t) = false := by simpa using ht
              have HW : Hid (co + 1 ≠ t) := Lib.hid ht
              have HNC : Hid (¬ (1 < co + 1 ∧ lw ++ [x] = la)) := Lib.hid (of_decide_eq_false HCB.out)
              clear ht
              go_wp2
              go_region
              all_goals
                go_wp2
                refine bodyPost_ret (v := .tuple #[.agg #[.int .u8 3, .int .i64 0, .int .u32 0, .int .i64 t, .bool false, .int .u64 0, .int .i64 0, (.slice (some ⟨g5, 0, none⟩) (lw.length + 1) c5), (.slice none 0 0), .bool false, (.slice none 0 0), .bool false, .int .i64 (co + 1)], .agg #[.int .u8 1, .int .i64 (lw.length : Int), .int .u64 x, .int .u64 x, .bool true]]) (by simp [results, Try.results34, go_sem, q0, q1, q2, q3, q4, q5, q6, q7, q8, q9, q10, q11, q12, z0, z1, z2, z3, z4, y10, y20, y12, y21]) rfl ⟨g5, c5, hg5, ?_, ?_, .inr (.inl ⟨HNE.out, HNC.out, HW.out, rfl⟩)⟩
                · repeat (first | (with_reducible exact HO3.out) | (with_reducible refine own_drew ?_) | (with_reducible refine own_drewN ?_ _) | refine own_far ?_ (by omega) _)
                · repeat (first | (with_reducible exact HR3.out.low) | (with_reducible refine Below.drew ?_) | (with_reducible refine Below.draws ?_ _) | refine Below.setCell ?_ (by (try simp); omega) _)

end Go.Proofs.Ytdadgppbpomdoaa
