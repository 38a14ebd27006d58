/- THE DOCUMENT'S OWN put: a swap that hits. -/
import Derived.Test.YtdadgppbpomdoaaQb
namespace Go.Proofs.Ytdadgppbpomdoaa
open Go Go.RowKit
section
variable {w wx wy : World} {A : Option Addr} {xs : List Int} {b0 b1 b2 b3 : Nat} {u d : List Value}
theorem PutR.setU (h : PutR w A xs b0 b1 b2 b3 u d wx) (hA : LiesU w A xs) (k : Nat) (v : Value) : PutR w A xs b0 b1 b2 b3 (u.set k v) d (wx.setCell ⟨b0, k, none⟩ v) := by
  have hl := h.low.setCell (p := ⟨b0, k, none⟩) (by have := h.gt; simp; omega) v
  have g := h.gt
  exact ⟨h.u.set _ _, h.ru.far (p := ⟨b0, k, none⟩) (by show b0 ≠ b1; omega) _, h.rd.far (p := ⟨b0, k, none⟩) (by show b0 ≠ b2; omega) _, h.d.far (p := ⟨b0, k, none⟩) (by show b0 ≠ b3; omega) _, hA.below hl, g, hl⟩
theorem PutR.setD (h : PutR w A xs b0 b1 b2 b3 u d wx) (hA : LiesU w A xs) (k : Nat) (v : Value) : PutR w A xs b0 b1 b2 b3 u (d.set k v) (wx.setCell ⟨b3, k, none⟩ v) := by
  have hl := h.low.setCell (p := ⟨b3, k, none⟩) (by have := h.gt; simp; omega) v
  have g := h.gt
  exact ⟨h.u.far (p := ⟨b3, k, none⟩) (by show b3 ≠ b0; omega) _, h.ru.far (p := ⟨b3, k, none⟩) (by show b3 ≠ b1; omega) _, h.rd.far (p := ⟨b3, k, none⟩) (by show b3 ≠ b2; omega) _, h.d.set _ _, hA.below hl, g, hl⟩
theorem PutR.on (h : PutR w A xs b0 b1 b2 b3 u d wx) (hA : LiesU w A xs) (hb : Below wx.heap.size wx wy) : PutR w A xs b0 b1 b2 b3 u d wy := by
  have hl := h.low.trans (hb.mono h.low.size)
  exact ⟨h.u.below hb h.u.lt, h.ru.below hb h.ru.lt, h.rd.below hb h.rd.lt, h.d.below hb h.d.lt, hA.below hl, h.gt, hl⟩
theorem PutR.alloc (h : PutR w A xs b0 b1 b2 b3 u d wx) (hA : LiesU w A xs) (o : Obj) : PutR w A xs b0 b1 b2 b3 u d (wx.alloc o) := h.on hA ((Below.refl _ _).alloc (Nat.le_refl _) o)
/-- behind a store into another block -/
theorem PutR.far (h : PutR w A xs b0 b1 b2 b3 u d wx) (hA : LiesU w A xs) {b : Nat} (hb : b3 < b) (k : Nat) (v : Value) : PutR w A xs b0 b1 b2 b3 u d (wx.setCell ⟨b, k, none⟩ v) := by
  have g := h.gt
  have hl := h.low.setCell (p := ⟨b, k, none⟩) (by simp; omega) v
  exact ⟨h.u.far (p := ⟨b, k, none⟩) (by show b ≠ b0; omega) _, h.ru.far (p := ⟨b, k, none⟩) (by show b ≠ b1; omega) _, h.rd.far (p := ⟨b, k, none⟩) (by show b ≠ b2; omega) _, h.d.far (p := ⟨b, k, none⟩) (by show b ≠ b3; omega) _, hA.below hl, g, hl⟩
end
theorem dword_after {x v : Int} (hv : U32 v) (w : World) :
    Calls Try.prog 51 #[.agg #[.int .u32 ((numW x + 1) % 4294967296), .int .u32 v]] w fun e w' => e = .returned (.int .u64 (afterW x v)) ∧ Below w.heap.size w w' :=
  dword_any (by unfold U32; omega) hv w
theorem own_setU {w : World} {base : Nat} {g c n cell : Nat} {p : Int} {ys : List Int} (h : w.ownsRow base 39 1 (.slice (some ⟨g, 0, none⟩) n c) n (u64s ys)) : (w.setCell ⟨g, cell, none⟩ (.int .u64 p)).ownsRow base 39 1 (.slice (some ⟨g, 0, none⟩) n c) n (u64s (ys.set cell p)) := by
  have h0 := (h.stored cell (.int .u64 p)).1
  rw [u64s_set] at h0
  exact h0
theorem own_far {w : World} {base b k size g c n : Nat} {e : TypeId} {xs : List Value} (h : w.ownsRow base e size (.slice (some ⟨g, 0, none⟩) n c) n xs) (hb : b ≠ g) (v : Value) : (w.setCell ⟨b, k, none⟩ v).ownsRow base e size (.slice (some ⟨g, 0, none⟩) n c) n xs :=
  own_part h ((Part.refl [b] w).set (p := ⟨b, k, none⟩) (by simp) v) (fun q e => by simp [Value.ownBlock] at e ⊢; omega)
theorem u64s_at {xs : List Int} {j : Nat} {x : Int} (h : xs[j]? = some x) : (u64s xs)[j]? = some (.int .u64 x) := by rw [u64s_get, h]; rfl
theorem new_after {w : World} {x v : Int} {g : Nat} (hv : U32 v) (h : w.heap.size = g) : Row (w.alloc (.cells #[.int .u32 ((numW x + 1) % 4294967296), .int .u32 v] 60)) g 60 (regCells [afterW x v]) := by
  subst h
  have e : regCells [afterW x v] = [.int .u32 ((numW x + 1) % 4294967296), .int .u32 v] := by simp [regCells, numW_after hv, valW_after hv]
  rw [e]
  exact Row.new w _ _
theorem own_drewN {w : World} {base size n : Nat} {e : TypeId} {v : Value} {xs : List Value} (h : w.ownsRow base e size v n xs) (m : Nat) : (w.drewN m).ownsRow base e size v n xs := h
theorem own_drew {w : World} {base size n : Nat} {e : TypeId} {v : Value} {xs : List Value} (h : w.ownsRow base e size v n xs) : w.drew.ownsRow base e size v n xs := h
theorem own_lt {w : World} {base n size : Nat} {e : TypeId} {v : Value} {xs : List Value} (h : w.ownsRow base e size v n xs) : ∀ q, v.ownBlock = some q → q < w.heap.size := by
  intro q hq
  rcases h.2 with ⟨rfl, _⟩ | ⟨g, _, _, rfl, _, hh, _⟩
  · cases hq
  · cases hq
    exact lt_of_block hh
theorem own_free {w : World} {base size g c n : Nat} {e : TypeId} {xs : List Value} (h : w.ownsRow base e size (.slice (some ⟨g, 0, none⟩) n c) n xs) (i : Nat) : w.frozen? ⟨g, i, none⟩ = false := by
  rcases h.2 with ⟨hv, _⟩ | ⟨g', _, cur, hv, _, hh, _⟩
  · cases hv
  · cases hv
    simp [World.frozen?, hh]
set_option maxRecDepth 100000
set_option maxHeartbeats 6400000
theorem dput_hit {w : World} {A : Option Addr} {n c i : Nat} {xs : List Int} {x v : Int} (h : LiesU w A xs) (hn : xs.length = n) (hl : n ≤ 64) (hx : xs[i]? = some x) (hux : U64 x) (huv : U32 v) :
    Calls Try.prog 33 #[.slice A n c, .agg (undD 1 i v 0 true x 0 (.slice none 0 0) (.slice none 0 0) false (.slice none 0 0) false 0).toArray] w fun e w' =>
      ∃ g5 c5 gr, e = .returned (.tuple #[.slice (some ⟨g5, 0, none⟩) n c5, .agg (undD 1 i v 0 false x 0 (.slice none 0 0) (.slice none 0 0) true (.slice (some ⟨gr, 0, none⟩) 1 1) false 0).toArray, .agg #[.int .u8 5, .int .i64 (i : Int), .int .u64 x, .int .u64 (afterW x v), .bool true]]) ∧ w.heap.size ≤ gr ∧ w.heap.size ≤ g5 ∧ Row w' gr 60 (regCells [afterW x v]) ∧ w'.ownsRow w.heap.size 39 1 (.slice (some ⟨g5, 0, none⟩) n c5) n (u64s (xs.set i (afterW x v))) ∧ Below w.heap.size w w' := by
  have hin := lt_of_get hx
  have HP := Lib.hid (putR_begin h (undD 1 i v 0 true x 0 (.slice none 0 0) (.slice none 0 0) false (.slice none 0 0) false 0) [.int .u8 1, .int .i64 (i : Int), .int .u64 x, .int .u64 x, .bool true])
  have HX := Lib.hid hx
  have HXN := Lib.hid hn
  have HL6 : Hid (n ≤ 1000000) := Lib.hid (by omega)
  have hn0 : Hid (0 < n) := Lib.hid (by omega)
  obtain ⟨g, rfl, hg, hc⟩ := h i x hx
  have hlt : (i : Int) < (n : Int) := by omega
  have HA : Hid (LiesU w (some ⟨g, 0, none⟩) xs) := Lib.hid (by assumption)
  have hxs : (x == x) = true := by simp
  have HUX := Lib.hid hux
  have HUV := Lib.hid huv
  have HG := Lib.hid hg
  clear hux huv h hx hin hn hl
  unfold undD
  go_enter Try.func33, Try.ntmps33
  go_upto_region 2 with fail
  go_cut [8] (fun s8 wx => ∃ b0 b1 b2 b3, s8 = .pointer (some ⟨b3, 0, none⟩) ∧ b0 = w.heap.size ∧ b1 = w.heap.size + 1 ∧ b2 = w.heap.size + 1 + 1 ∧ PutR w (some ⟨g, 0, none⟩) xs b0 b1 b2 b3 (undD 1 i v 0 true x 0 (.slice none 0 0) (.slice none 0 0) false (.slice none 0 0) false 0) [.int .u8 1, .int .i64 (i : Int), .int .u64 x, .int .u64 x, .bool true] wx)
  case first =>
    go_region_held3 (fun w' => w'.cell? ⟨g, i, none⟩ = some (.int .u64 x)) (first | exact put3_cell hg hc _ | exact put4_cell hg hc _ _ | go_keep) (first | fail)
    all_goals
      go_wp2_with fail
      go_meet
      exact ⟨_, _, _, _, rfl, rfl, rfl, rfl, HP.out.drew⟩
  case rest =>
    obtain ⟨b0, b1, b2, b3, rfl, hb0, hb1, hb2, hP⟩ := hcut
    rw [← hb2, ← hb1, ← hb0]
    have HR := Lib.hid hP
    clear hP hb0 hb1 hb2
    obtain ⟨gt0, gt1, gt2, gt3⟩ := HR.out.gt
    have y10 : ¬ b1 = b0 := by omega
    have y20 : ¬ b2 = b0 := by omega
    have y12 : ¬ b1 = b2 := by omega
    have y21 : ¬ b2 = b1 := by omega
    have y13 : ¬ b1 = b3 := by omega
    have y31 : ¬ b3 = b1 := by omega
    have y23 : ¬ b2 = b3 := by omega
    have y32 : ¬ b3 = b2 := by omega
    have y01 : ¬ b0 = b1 := by omega
    have y02 : ¬ b0 = b2 := by omega
    have y03 : ¬ b0 = b3 := by omega
    have y30 : ¬ b3 = b0 := by omega
    have x0 := HR.out.u.lt
    have x1 := HR.out.ru.lt
    have x2 := HR.out.rd.lt
    have x3 := HR.out.d.lt
    have hu := HR.out.u
    have hru := HR.out.ru
    have hrd := HR.out.rd
    unfold undD at hu
    unfold undO undD at hru
    unfold didO at hrd
    obtain ⟨v0, v1, v2, v3, v4, v5, v6, v7, v8, v9, v10, v11, v12⟩ := hu.thirteen
    obtain ⟨q0, q1, q2, q3, q4, q5, q6, q7, q8, q9, q10, q11, q12⟩ := hru.thirteen
    obtain ⟨z0, z1, z2, z3, z4⟩ := hrd.five6
    obtain ⟨e0, e1, e2, e3, e4⟩ := HR.out.d.five6
    have uf := hu.free
    have qf := hru.free
    have zf := hrd.free
    have df := HR.out.d.free
    clear hu hru hrd
    obtain ⟨g', hgg, hglt, hcx⟩ := HR.out.cells i x HX.out
    cases hgg
    have g0 : ¬ b0 = g := by omega
    have g1 : ¬ g = b0 := by omega
    have g3 : ¬ g = b3 := by omega
    have g4 : ¬ b3 = g := by omega
    go_wp2
    go_region
    go_upto_region 9 with fail
    go_cut [] (fun wx => PutR w (some ⟨g, 0, none⟩) xs b0 b1 b2 b3 (undD 1 i v 0 false x 0 (.slice none 0 0) (.slice none 0 0) false (.slice none 0 0) false 0) [.int .u8 5, .int .i64 (i : Int), .int .u64 x, .int .u64 x, .bool true] wx)
    case first =>
      go_wp2
      go_meet
      first | exact (((HR.out.setD HA.out 0 (.int .u8 5)).setD HA.out 4 (.bool true)).setU HA.out 4 (.bool false)).drew | exact (((HR.out.setD HA.out 0 (.int .u8 5)).setD HA.out 4 (.bool true)).drew.setU HA.out 4 (.bool false)) | exact (((HR.out.setD HA.out 0 (.int .u8 5)).drew.setD HA.out 4 (.bool true)).setU HA.out 4 (.bool false))
    case rest =>
      have HR2 := Lib.hid hcut
      clear hcut hglt hcx x0 x1 x2 x3 v0 v1 v2 v3 v4 v5 v6 v7 v8 v9 v10 v11 v12 q0 q1 q2 q3 q4 q5 q6 q7 q8 q9 q10 q11 q12 z0 z1 z2 z3 z4 e0 e1 e2 e3 e4 uf qf zf df
      have x0 := HR2.out.u.lt
      have x1 := HR2.out.ru.lt
      have x2 := HR2.out.rd.lt
      have x3 := HR2.out.d.lt
      have hu := HR2.out.u
      have hru := HR2.out.ru
      have hrd := HR2.out.rd
      unfold undD at hu
      unfold undO undD at hru
      unfold didO at hrd
      obtain ⟨v0, v1, v2, v3, v4, v5, v6, v7, v8, v9, v10, v11, v12⟩ := hu.thirteen
      obtain ⟨q0, q1, q2, q3, q4, q5, q6, q7, q8, q9, q10, q11, q12⟩ := hru.thirteen
      obtain ⟨z0, z1, z2, z3, z4⟩ := hrd.five6
      obtain ⟨e0, e1, e2, e3, e4⟩ := HR2.out.d.five6
      have uf := hu.free
      have qf := hru.free
      have zf := hrd.free
      have df := HR2.out.d.free
      clear hu hru hrd
      go_upto_region 12 with fail
      go_cut [9] (fun s9 wx => ∃ b4, s9 = .pointer (some ⟨b4, 0, none⟩) ∧ b3 < b4 ∧ PutR w (some ⟨g, 0, none⟩) xs b0 b1 b2 b3 (undD 1 i v 0 false x 0 (.slice none 0 0) (.slice none 0 0) false (.slice none 0 0) false 0) [.int .u8 5, .int .i64 (i : Int), .int .u64 x, .int .u64 x, .bool true] wx ∧ Row wx b4 60 [.int .u32 ((numW x + 1) % 4294967296), .int .u32 v])
      case first =>
        have kfield : ∀ (w : World) (a b : Int), (Instr.field 60 (.agg #[.int .u32 a, .int .u32 b]) 0).run Try.prog w = .ok (.int .u32 a) w := fun _ _ _ => by kernel_rfl
        have HQA := Lib.hid HR2.out.drew
        have HQB := Lib.hid (fun o => (HR2.out.alloc HA.out o).drew)
        have n0 : ¬ wc.heap.size = b0 := by omega
        have n00 : ¬ b0 = wc.heap.size := by omega
        have HZ : Hid (Row ((wc.alloc (.cells #[.int .u32 0, .int .u32 0] 60)).drew) wc.heap.size 60 [.int .u32 0, .int .u32 0]) := Lib.hid (Row.new wc 60 [.int .u32 0, .int .u32 0])
        go_region_held3 (fun w' => w'.cell? ⟨b0, 2, none⟩ = some (.int .u32 v) ∧ w'.cell? ⟨b0, 5, none⟩ = some (.int .u64 x))
          (first | (with_reducible exact ⟨f2, f5⟩) | exact ⟨HQA.out.u.cell 2, HQA.out.u.cell 5⟩ | exact ⟨(HQB.out _).u.cell 2, (HQB.out _).u.cell 5⟩ | go_keep)
          (first
          | (go_at_call 35; (with_reducible refine (dreg_any HUX.out wc.drew).mono ?_); unfold regV; rintro e w1 ⟨rfl, hb1⟩; have HC := Lib.hid (HQA.out.on HA.out hb1); have f2 : w1.cell? ⟨b0, 2, none⟩ = some (.int .u32 v) := HC.out.u.cell 2; have f5 : w1.cell? ⟨b0, 5, none⟩ = some (.int .u64 x) := HC.out.u.cell 5; clear hb1)
          | (go_at_call 35; refine (dreg_any HUX.out _).mono ?_; unfold regV; rintro e w1 ⟨rfl, hb1⟩; have HD := Lib.hid ((HQB.out _).on HA.out hb1); have HZ1 := Lib.hid (HZ.out.below hb1 HZ.out.lt); have hz0 : w1.cell? ⟨wc.heap.size, 0, none⟩ = some (.int .u32 0) := HZ1.out.cell 0; have hz1 : w1.cell? ⟨wc.heap.size, 1, none⟩ = some (.int .u32 0) := HZ1.out.cell 1; have hzf := HZ1.out.free; have hzl := HZ1.out.lt; have f2 : w1.cell? ⟨b0, 2, none⟩ = some (.int .u32 v) := HD.out.u.cell 2; have f5 : w1.cell? ⟨b0, 5, none⟩ = some (.int .u64 x) := HD.out.u.cell 5; clear hb1))
        all_goals
          go_wp2_with fail
          go_meet
          first
          | exact ⟨_, rfl, HC.out.d.lt, HC.out.alloc HA.out _, by rw [← IntKind.wrap_u32]; exact Row.new _ _ _⟩
          | exact ⟨_, rfl, HR2.out.d.lt, (HD.out.far HA.out HR2.out.d.lt _ _).far HA.out HR2.out.d.lt _ _, by rw [← IntKind.wrap_u32]; exact (HZ1.out.set 0 _).set 1 _⟩
      case rest =>
        obtain ⟨b4, rfl, hb4, hP, hN⟩ := hcut
        have HR3 := Lib.hid hP
        have HN3 := Lib.hid hN
        have hN0 := hN.cell 0
        have hN1 := hN.cell 1
        have b4lt := hN.lt
        have n40 : ¬ b4 = b0 := by omega
        have n04 : ¬ b0 = b4 := by omega
        clear hP hN x0 x1 x2 x3 v0 v1 v2 v3 v4 v5 v6 v7 v8 v9 v10 v11 v12 q0 q1 q2 q3 q4 q5 q6 q7 q8 q9 q10 q11 q12 z0 z1 z2 z3 z4 e0 e1 e2 e3 e4 uf qf zf df
        go_upto_region 13 with fail
        go_cut [10] (fun s10 wx => ∃ g5 c5, s10 = .slice (some ⟨g5, 0, none⟩) n c5 ∧ b4 < g5 ∧ PutR w (some ⟨g, 0, none⟩) xs b0 b1 b2 b3 (undD 1 i v 0 false x 0 (.slice none 0 0) (.slice none 0 0) false (.slice none 0 0) false 0) [.int .u8 5, .int .i64 (i : Int), .int .u64 x, .int .u64 x, .bool true] wx ∧ Row wx b4 60 [.int .u32 ((numW x + 1) % 4294967296), .int .u32 v] ∧ wx.ownsRow w.heap.size 39 1 (.slice (some ⟨g5, 0, none⟩) n c5) n (u64s xs))
        case first =>
          go_wp2_with (go_at_call 50; refine (dcopy_any HR3.out.cells HXN.out HL6.out).mono ?_; rintro e w5 ⟨v5, rfl, hown, hbl⟩; rw [HXN.out] at hown; have HOW := Lib.hid hown; have HBL := Lib.hid hbl; clear hown hbl)
          go_meet
          obtain ⟨g5, c5, e5, hg5, hg5l⟩ := own_some HOW.out hn0.out
          subst e5
          exact ⟨g5, c5, rfl, by omega, HR3.out.on HA.out HBL.out, HN3.out.below HBL.out HN3.out.lt, ownsRow_base HOW.out HR3.out.low.size⟩
        case rest =>
          obtain ⟨g5, c5, rfl, hg5, hP, hN, hO⟩ := hcut
          have HR4 := Lib.hid hP
          have HN4 := Lib.hid hN
          have HO4 := Lib.hid hO
          have hN0' := hN.cell 0
          have hN1' := hN.cell 1
          have b4lt' := hN.lt
          have g5lt := own_lt hO g5 rfl
          have hoc := own_cell hO (j := i) (u64s_at HX.out)
          have hof := own_free hO
          clear hP hN hO hN0 hN1 b4lt
          go_upto_region 14 with fail
          go_cut [] (fun wx => PutR w (some ⟨g, 0, none⟩) xs b0 b1 b2 b3 (undD 1 i v 0 false x 0 (.slice none 0 0) (.slice none 0 0) false (.slice none 0 0) false 0) [.int .u8 5, .int .i64 (i : Int), .int .u64 x, .int .u64 x, .bool true] wx ∧ Row wx b4 60 [.int .u32 ((numW x + 1) % 4294967296), .int .u32 v] ∧ wx.ownsRow w.heap.size 39 1 (.slice (some ⟨g5, 0, none⟩) n c5) n (u64s (xs.set i (afterW x v))))
          case first =>
            go_wp2_with (go_at_call 51; refine (dword_after HUV.out _).mono ?_; rintro e w6 ⟨rfl, hb6⟩; have HB6 := Lib.hid hb6; have HO6 := Lib.hid (own_part HO4.out (Part.of_below hb6 (Nat.le_refl _) []) (by simp)); have hoc6 := own_cell HO6.out (j := i) (u64s_at HX.out); have hof6 := own_free HO6.out; have g5lt6 := own_lt HO6.out g5 rfl; clear hb6)
            go_meet
            exact ⟨(HR4.out.on HA.out HB6.out).far HA.out (by omega) _ _, (HN4.out.below HB6.out HN4.out.lt).far (p := ⟨g5, i, none⟩) (by show g5 ≠ b4; omega) _, own_setU HO6.out⟩
          case rest =>
            obtain ⟨hP, hN, hO⟩ := hcut
            have HR5 := Lib.hid hP
            have HN5 := Lib.hid hN
            have HO5 := Lib.hid hO
            have hM0 := hN.cell 0
            have hM1 := hN.cell 1
            have b4lm := hN.lt
            have g5lm := own_lt hO g5 rfl
            have hom := own_cell hO (j := i) (u64s_at (List.getElem?_set_self (lt_of_get HX.out)))
            have hu := hP.u
            have hd := hP.d
            unfold undD at hu
            obtain ⟨v0, v1, v2, v3, v4, v5, v6, v7, v8, v9, v10, v11, v12⟩ := hu.thirteen
            obtain ⟨e0, e1, e2, e3, e4⟩ := hd.five6
            have uf := hu.free
            have df := hd.free
            have x0 := hu.lt
            have x3 := hd.lt
            have n03 : ¬ b4 = b3 := by omega
            have n30 : ¬ b3 = b4 := by omega
            have m0 : ¬ g5 = b0 := by omega
            have m1 : ¬ b0 = g5 := by omega
            have m3 : ¬ g5 = b3 := by omega
            have m4 : ¬ b3 = g5 := by omega
            clear hP hN hO hu hd hN0' hN1' b4lt' g5lt hoc hof
            go_upto_region 17 with fail
            go_cut [] (fun wx => ∃ gr, w.heap.size ≤ gr ∧ b3 < gr ∧ PutR w (some ⟨g, 0, none⟩) xs b0 b1 b2 b3 (undD 1 i v 0 false x 0 (.slice none 0 0) (.slice none 0 0) true (.slice (some ⟨gr, 0, none⟩) 1 1) false 0) [.int .u8 5, .int .i64 (i : Int), .int .u64 x, .int .u64 (afterW x v), .bool true] wx ∧ Row wx gr 60 (regCells [afterW x v]) ∧ wx.ownsRow w.heap.size 39 1 (.slice (some ⟨g5, 0, none⟩) n c5) n (u64s (xs.set i (afterW x v))))
            case first =>
              go_wp2
              go_meet
              exact ⟨wc.heap.size, HR5.out.low.size, HR5.out.d.lt, (((((HR5.out.setD HA.out 3 _).setU HA.out 9 _).setU HA.out 10 _).setU HA.out 11 _).setU HA.out 12 _).alloc HA.out _, new_after HUV.out (by simp), (own_far (own_far (own_far (own_far (own_far HO5.out (fun e => m4 e) _) (fun e => m1 e) _) (fun e => m1 e) _) (fun e => m1 e) _) (fun e => m1 e) _).alloc _⟩
            case rest =>
              obtain ⟨gr, hgr, hgr3, hP, hrr, hO⟩ := hcut
              have HR6 := Lib.hid hP
              have HRR := Lib.hid hrr
              have HO6 := Lib.hid hO
              have g5lf := own_lt hO g5 rfl
              have grlt := hrr.lt
              clear hP hrr hO hM0 hM1 b4lm g5lm hom x0 x3 uf df v0 v1 v2 v3 v4 v5 v6 v7 v8 v9 v10 v11 v12 e0 e1 e2 e3 e4
              have x0 := HR6.out.u.lt
              have x1 := HR6.out.ru.lt
              have x2 := HR6.out.rd.lt
              have x3 := HR6.out.d.lt
              have hu := HR6.out.u
              have hru := HR6.out.ru
              have hrd := HR6.out.rd
              unfold undD at hu
              unfold undO undD at hru
              unfold didO at hrd
              obtain ⟨v0, v1, v2, v3, v4, v5, v6, v7, v8, v9, v10, v11, v12⟩ := hu.thirteen
              obtain ⟨q0, q1, q2, q3, q4, q5, q6, q7, q8, q9, q10, q11, q12⟩ := hru.thirteen
              obtain ⟨z0, z1, z2, z3, z4⟩ := hrd.five6
              obtain ⟨e0, e1, e2, e3, e4⟩ := HR6.out.d.five6
              have uf := hu.free
              have qf := hru.free
              have zf := hrd.free
              have df := HR6.out.d.free
              clear hu hru hrd
              go_wp2
              go_region
              all_goals
                go_wp2
                refine bodyPost_ret (v := .tuple #[.slice (some ⟨g5, 0, none⟩) n c5, .agg #[.int .u8 1, .int .i64 (i : Int), .int .u32 v, .int .i64 0, .bool false, .int .u64 x, .int .i64 0, .slice none 0 0, .slice none 0 0, .bool true, .slice (some ⟨gr, 0, none⟩) 1 1, .bool false, .int .i64 0], .agg #[.int .u8 5, .int .i64 (i : Int), .int .u64 x, .int .u64 (afterW x v), .bool true]]) (by simp [results, Try.results33, go_sem, q0, q1, q2, q3, q4, q5, q6, q7, q8, q9, q10, q11, q12, z0, z1, z2, z3, z4, y10, y20, y12, y21]) rfl ⟨g5, c5, gr, rfl, hgr, by omega, ?_, ?_, ?_⟩
                · repeat (first | (with_reducible exact HRR.out) | (with_reducible refine Row.drew ?_) | (with_reducible refine Row.drewN ?_ _) | refine Row.far ?_ (by first | (show b1 ≠ gr; omega) | (show b2 ≠ gr; omega)) _)
                · repeat (first | (with_reducible exact HO6.out) | (with_reducible refine own_drew ?_) | (with_reducible refine own_drewN ?_ _) | refine own_far ?_ (by omega) _)
                · repeat (first | (with_reducible exact HR6.out.low) | (with_reducible refine Below.drew ?_) | (with_reducible refine Below.draws ?_ _) | refine Below.setCell ?_ (by (try simp); omega) _)

end Go.Proofs.Ytdadgppbpomdoaa
