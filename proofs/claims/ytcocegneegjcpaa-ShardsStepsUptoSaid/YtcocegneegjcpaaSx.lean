/- THE WALK of the law 'ShardsCalls'. -/
import Derived.Test.YtcocegneegjcpaaSw
import Derived.Test.YtcocegneegjcpaaSp
namespace Go.Proofs.Ytcocegneegjcpaa
open Go Go.RowKit

/-- the counter, and the document's cells -/
structure CallsR (W : World) (bc bk bw g n : Nat) (ws : List Int) (wr : World) : Prop where
  shard : Shard wr bc bk bw ws
  lies : Lies wr g ws
  glt : g < wr.heap.size
  ne : g ≠ bw
  len : ws.length = n
  lo : W.heap.size ≤ bw
  low : Below W.heap.size W wr
/-- behind the code's call: the counter has turned, the document's cells not yet; the operation lies in its box -/
structure MidR (W : World) (bc bk bw g b : Nat) (ws ws' : List Int) (l : List Value) (wr : World) : Prop where
  shard : Shard wr bc bk bw ws'
  lies : Lies wr g ws
  glt : g < wr.heap.size
  ne : g ≠ bw
  gb : g ≠ b
  box : Row wr b 67 l
  lo : W.heap.size ≤ bw
  blo : W.heap.size ≤ b
  low : Below W.heap.size W wr
section
variable {W wr w1 w2 : World} {bc bk bw g g' b n : Nat} {ws ws' : List Int} {l : List Value}
theorem CallsR.on (h : CallsR W bc bk bw g n ws wr) (hb : Below wr.heap.size wr w1) : CallsR W bc bk bw g n ws w1 :=
  ⟨h.shard.on hb, h.lies.below hb h.glt, Nat.lt_of_lt_of_le h.glt hb.size, h.ne, h.len, h.lo, h.low.trans (hb.mono h.low.size)⟩
theorem CallsR.mid (h : CallsR W bc bk bw g n ws wr) (hS : Shard w2 bc bk bw ws') (hP : Part [bw] (wr.alloc (.cells l.toArray 67)) w2) : MidR W bc bk bw g wr.heap.size ws ws' l w2 := by
  have hbw := h.shard.words.row.lt
  have hP2 : Part [bw] wr w2 := Part.trans (S' := [bw]) (Part.alloc (Part.refl [bw] wr) _) hP (fun _ _ hm => hm)
  exact ⟨hS, h.lies.part hP2 h.glt (by simpa using h.ne), Nat.lt_of_lt_of_le h.glt hP2.size, h.ne, Nat.ne_of_lt h.glt, (Row.new wr _ l).part hP (by simp; omega), h.lo, h.low.size, h.low.trans (hP2.below h.low.size (by simpa using h.lo))⟩
theorem MidR.on (h : MidR W bc bk bw g b ws ws' l wr) (hb : Below wr.heap.size wr w1) : MidR W bc bk bw g b ws ws' l w1 :=
  ⟨h.shard.on hb, h.lies.below hb h.glt, Nat.lt_of_lt_of_le h.glt hb.size, h.ne, h.gb, h.box.below hb h.box.lt, h.lo, h.blo, h.low.trans (hb.mono h.low.size)⟩
theorem MidR.set (h : MidR W bc bk bw g b ws ws' l wr) (i : Nat) (v : Value) : MidR W bc bk bw g b ws ws' (l.set i v) (wr.setCell ⟨b, i, none⟩ v) := by
  have hP : Part [b] wr (wr.setCell ⟨b, i, none⟩ v) := Part.set (Part.refl _ _) (by simp) v
  exact ⟨h.shard.part hP (by simpa using h.shard.head.ne h.box (by decide)) (by simpa using h.shard.words.head.ne h.box (by decide)) (by simpa using h.shard.words.row.ne h.box (by decide)), h.lies.part hP h.glt (by simpa using h.gb), by simpa using h.glt, h.ne, h.gb, h.box.set i v, h.lo, h.blo, h.low.setCell (by simpa using h.blo) v⟩
theorem MidR.end_ (h : MidR W bc bk bw g b ws ws' l wr) (hl : Lies w1 g' ws') (hg : g' < w1.heap.size) (hn : g' = g ∨ wr.heap.size ≤ g') (hb : Below wr.heap.size wr w1) (hlen : ws'.length = n) : CallsR W bc bk bw g' n ws' w1 := by
  have h1 := h.on hb
  have hbw := h.shard.words.row.lt
  refine ⟨h1.shard, hl, hg, ?_, hlen, h1.lo, h1.low⟩
  rcases hn with rfl | hn
  · exact h.ne
  · omega
end
theorem rwhole_at {w : World} {g0 c0 : Nat} {ws ws' : List Int} {v : Int} (h : Lies w g0 ws) (hg : g0 < w.heap.size) (h0 : 0 < ws.length) (hl : ws.length ≤ 64) (hu : ∀ x, x ∈ ws → U64 x) {k : Int} {i : Nat} {y : Int} (hr : RightN k i y) (hi : i ≤ 9223372036854775807) (hst : stS k i y ws (many ws.length k) = (ws', v)) :
    Calls Try.prog 37 #[.slice (some ⟨g0, 0, none⟩) ws.length c0, .agg #[.int .u8 k, .int .i64 (i : Int), .int .u64 y]] w (WholeS w g0 ws' v) := by
  have := rwhole_any (c0 := c0) h hg h0 hl hu hr hi
  rw [hst] at this
  exact this
theorem rright_s {k i y : Int} {r : Bool} (h : rightB k i y = r) (w : World) :
    Calls Try.prog 25 #[.agg #[.int .u8 k, .int .i64 i, .int .u64 y]] w fun e w' => e = .returned (.bool r) ∧ Below w.heap.size w w' := h ▸ refRight_any k i y w
set_option maxRecDepth 100000
theorem scalls_no {n : Int} (hn : n < 1 ∨ 64 < n) {A : Option Addr} {len cap : Nat} (W : World) :
    Calls Try.prog 5 #[.int .i64 n, .slice A len cap] W fun e w' => e = .returned (.bool true) ∧ Below W.heap.size W w' := by
  rcases hn with hn | hn
  · have h1 : decide (n < 1) = true := by simpa using hn
    have HN := Lib.hid hn
    clear hn
    go_enter Try.func5, Try.ntmps5
    go_wp2_with (first
      | (go_at_call 20; refine (begun_no (.inl HN.out)).mono ?_; rintro e w' ⟨rfl, rfl⟩)
      | (go_at_call 22; refine (begins_any _).mono ?_; rintro e w0 ⟨rfl, hb⟩; have HB0 := Lib.hid hb; clear hb))
    go_ret
    exact ⟨rfl, HB0.out⟩
  · have h1 : decide (n < 1) = false := by simp; omega
    have h2 : decide (64 < n) = true := by simpa using hn
    have HN := Lib.hid hn
    clear hn
    go_enter Try.func5, Try.ntmps5
    go_wp2_with (first
      | (go_at_call 20; refine (begun_no (.inr HN.out)).mono ?_; rintro e w' ⟨rfl, rfl⟩)
      | (go_at_call 22; refine (begins_any _).mono ?_; rintro e w0 ⟨rfl, hb⟩; have HB0 := Lib.hid hb; clear hb))
    go_ret
    exact ⟨rfl, HB0.out⟩

theorem whole_n {w : World} {g0 c0 n : Nat} {ws ws' : List Int} {v : Int} (h : Lies w g0 ws) (hg : g0 < w.heap.size) (hn : ws.length = n) (h0 : 0 < ws.length) (hl : ws.length ≤ 64) (hu : ∀ x, x ∈ ws → U64 x) {k : Int} {i : Nat} {y : Int} (hr : RightN k i y) (hi : i ≤ 9223372036854775807) (hst : stS k i y ws (many ws.length k) = (ws', v)) :
    Calls Try.prog 37 #[.slice (some ⟨g0, 0, none⟩) n c0, .agg #[.int .u8 k, .int .i64 (i : Int), .int .u64 y]] w (WholeS w g0 ws' v) := by
  subst hn
  exact rwhole_at h hg h0 hl hu hr hi hst
theorem cadd_at {w : World} {bc bk bw : Nat} {ws ws' : List Int} (h : Shard w bc bk bw ws) {k : Nat} {x y v : Int} (hx : ws[k % ws.length]? = some x) (hk : k ≤ 9223372036854775807) (hv : IntKind.u64.wrap (x + y) = v) (hws : ws.set (k % ws.length) v = ws') :
    Calls Try.prog 33 #[.pointer (some ⟨bc, 0, none⟩), .int .i64 (k : Int), .int .u64 y] w (Added w bc bk bw ws' (.tuple #[.int .u64 v, .int .i64 0])) := by
  subst hv
  subst hws
  exact cadd_any h hx hk
theorem csum_at {w : World} {bc bk bw : Nat} {ws : List Int} {v : Int} (h : Shard w bc bk bw ws) (hv : sumW ws = v) : Calls Try.prog 35 #[.pointer (some ⟨bc, 0, none⟩)] w fun e w' => e = .returned (.int .u64 v) ∧ w = w' := hv ▸ csum_any h
theorem ctake_at {w : World} {bc bk bw : Nat} {ws ws' : List Int} {v : Int} (h : Shard w bc bk bw ws) (hv : sumW ws = v) (hws : List.replicate ws.length 0 = ws') : Calls Try.prog 36 #[.pointer (some ⟨bc, 0, none⟩)] w (Added w bc bk bw ws' (.int .u64 v)) := by
  subst hv
  subst hws
  exact ctake_any h
theorem Row.three_ {w : World} {b : Nat} {t : TypeId} {x0 x1 x2 : Value} (h : Row w b t [x0, x1, x2]) :
    w.cell? ⟨b, 0, none⟩ = some x0 ∧ w.cell? ⟨b, 1, none⟩ = some x1 ∧ w.cell? ⟨b, 2, none⟩ = some x2 := ⟨h.cell 0, h.cell 1, h.cell 2⟩
theorem infoUS : (Try.prog.info? 29).map (fun i => (i.zero, i.size, i.bytes)) = some (some (.int .u64 0), 1, 8) := by kernel_rfl
theorem u64s_made (n : Nat) : (madeCells (Value.int .u64 0).cells (n * 1)).toList = u64s (List.replicate n 0) := by
  apply List.ext_getElem?
  intro i
  simp only [madeCells, Value.cells, Nat.mul_one, u64s]
  by_cases h : i < n
  · simp [h, Nat.mod_one]
  · simp [h]
theorem first_calls {W wr w7 : World} {bc bk bw n : Nat} (hS : Shard wr bc bk bw (List.replicate n 0)) (hbw : W.heap.size ≤ bw) (hlow : Below W.heap.size W wr) (hr : Row w7 wr.heap.size 29 (u64s (List.replicate n 0))) (hb : Below wr.heap.size wr w7) : CallsR W bc bk bw wr.heap.size n (List.replicate n 0) w7 := by
  have h1 := hS.words.row.lt
  exact ⟨hS.on hb, hr.lies, hr.lt, by omega, by simp, hbw, hlow.trans (hb.mono hlow.size)⟩
set_option maxHeartbeats 25600000
theorem scalls_yes {n : Nat} (h1 : 1 ≤ n) (h2 : n ≤ 64) {A : Option Addr} {cap : Nat} {ops : List (Int × Int × Int)} (W : World) (hE : ExtOps W A ops) (hr : ops.length * 24 ≤ 140737488351232) (hwf : ∀ op, op ∈ ops → op.2.1 ≤ 9223372036854775807) :
    Calls Try.prog 5 #[.int .i64 (n : Int), .slice A ops.length cap] W fun e w' => e = .returned (.bool true) ∧ Below W.heap.size W w' := by
  obtain ⟨iU, hiU, hU0, hU1, hU2⟩ := info_parts infoUS
  have HE := Lib.hid hE
  have HWF := Lib.hid hwf
  have hbu : iU.bytes * n ≤ 281474976710656 := by rw [hU2]; omega
  have hmu : n ≤ maxLen := by unfold maxLen; omega
  clear hE hwf
  go_enter Try.func5, Try.ntmps5
  go_wp2_with (first
    | (go_at_call 20; refine (begun_yes _ h1 h2).mono ?_; rintro e w1 ⟨bc, bk, bw, rfl, hc, hk, hw, hS, hb⟩; have HS1 := Lib.hid hS; have HB1 := Lib.hid hb; have HW1 := Lib.hid hw; clear hc hk hw hS hb)
    | (at_make; refine wpList_make_full _ rfl _ _ 71 rfl w1.heap.size 29 iU (.int .u64 0) 1 Try.underlying71 hiU hU0 hU1 .i64 .i64 n n n rfl rfl rfl rfl hbu hmu (Nat.le_refl _) ?_; intro w7 hown7 hgr7; have hrw := row_of_full hown7; rw [u64s_made] at hrw; have HC7 := Lib.hid (first_calls HS1.out HW1.out HB1.out hrw ((Below.refl _ _).grown hgr7 (Nat.le_refl _) (by simp))); clear hown7 hgr7 hrw))
  obtain ⟨gl, hgl⟩ : ∃ gl, w1.heap.size = gl := ⟨_, rfl⟩
  rw [hgl] at HC7 ⊢
  clear hgl
  go_loopw [7, 8] (fun v u wr => ∃ j : Nat, j ≤ ops.length ∧ u = .int .i64 j ∧ ∃ g c ws, v = .slice (some ⟨g, 0, none⟩) n c ∧ CallsR W bc bk bw g n ws wr) (fun _ u _ => ops.length - (intOf u).toNat)
  case atStart => exact ⟨0, Nat.zero_le _, rfl, gl, _, _, rfl, HC7.out⟩
  case round =>
    obtain ⟨j, hj, rfl, g, c, ws, rfl, hC⟩ := hrel
    have HC := Lib.hid hC
    clear hC HC7 HS1 HB1
    by_cases hlt : j < ops.length
    · obtain ⟨op, hop⟩ : ∃ op, ops[j]? = some op := ⟨ops[j], List.getElem?_eq_getElem hlt⟩
      obtain ⟨b', o', rfl, hlt', q0, q1, q2⟩ := (HE.out.on HC.out.low) j _ hop
      have hw1 := HWF.out op (List.mem_of_getElem? hop)
      obtain ⟨k, i, y⟩ := op
      have hlt2 : (j : Int) < (ops.length : Int) := by omega
      have hj2 : j * 3 ≤ 17592186044416 := by omega
      dsimp only at q0 q1 q2 hw1
      have HLN := Lib.hid HC.out.len
      have HPO := Lib.hid HC.out.shard.pos
      have HTO := Lib.hid HC.out.shard.top
      have HUU := Lib.hid HC.out.shard.words.ok
      have HSA : Hid (Shard (wr.alloc (.cells #[.int .u8 k, .int .i64 i, .int .u64 y] 67)) bc bk bw ws) := Lib.hid (HC.out.shard.alloc _)
      clear hop
      by_cases k1 : k = 1
      · subst k1
        by_cases hi : i < 0
        · have HI := Lib.hid hi
          have HRB : Hid (rightB 1 i y = false) := Lib.hid (by simp [rightB]; omega)
          clear hi hw1
          go_wp2_with (first
            | (go_at_call 33; refine (cadd_low HI.out).mono ?_; rintro e wx ⟨rfl, rfl⟩)
            | (go_at_call 25; refine (rright_s HRB.out _).mono ?_; rintro e w4 ⟨rfl, hb4⟩; have HC4 := Lib.hid ((HC.out.on ((Below.refl _ _).alloc (Nat.le_refl _) _)).on hb4); clear hb4))
          go_roundw
          case rel => exact ⟨j + 1, by omega, by go_num, g, c, ws, rfl, HC4.out⟩
          case measure => simp [intOf]; omega
        obtain ⟨m, rfl⟩ := Int.eq_ofNat_of_zero_le (show 0 ≤ i by omega)
        have HI : Hid (m ≤ 9223372036854775807) := Lib.hid (by omega)
        have HCL : Hid (m % ws.length < ws.length) := Lib.hid (Nat.mod_lt _ HPO.out)
        obtain ⟨x, hx⟩ : ∃ x, ws[m % ws.length]? = some x := ⟨_, List.getElem?_eq_getElem HCL.out⟩
        have HX := Lib.hid hx
        clear hi hw1 hx
        obtain ⟨v, hv⟩ : ∃ v, IntKind.u64.wrap (x + y) = v := ⟨_, rfl⟩
        obtain ⟨ws2, hws⟩ : ∃ ws2, ws.set (m % ws.length) v = ws2 := ⟨_, rfl⟩
        have HST : Hid (stS 1 m y ws (many ws.length 1) = (ws2, v)) := Lib.hid (by rw [← hws, ← hv]; exact stS_add HX.out)
        have HLW : Hid (ws2.length = ws.length) := Lib.hid (by rw [← hws, List.length_set])
        have HV := Lib.hid hv
        have HWS := Lib.hid hws
        have HRB : Hid (rightB 1 (m : Int) y = true) := Lib.hid (by simp [rightB])
        clear hv hws
        go_wp2_with (first
        | (go_at_call 33; refine (cadd_at HSA.out HX.out HI.out HV.out HWS.out).mono ?_; rintro e w2 ⟨rfl, hS2, hP2⟩; have HM2 := Lib.hid (HC.out.mid hS2 hP2); have bx := HM2.out.box.three_; obtain ⟨m0, m1, m2⟩ := bx; have mf := HM2.out.box.free; have mlt := HM2.out.box.lt; clear hS2 hP2)
        | (go_at_call 25; refine (rright_s HRB.out _).mono ?_; rintro e w4 ⟨rfl, hb4⟩; have HM4 := Lib.hid ((HM2.out).on hb4); have bx := HM4.out.box.three_; obtain ⟨e0, e1, e2⟩ := bx; have elt := HM4.out.box.lt; clear hb4)
        | (go_at_call 37; refine (whole_n HM4.out.lies HM4.out.glt HLN.out HPO.out HTO.out HUU.out (.inl rfl) HI.out HST.out).mono ?_; rintro e w5 ⟨g', c', rfl, hl5, hg5, hn5, hb5⟩; have HM5 := Lib.hid (HM4.out.on hb5); have HL5 := Lib.hid hl5; have HG5 := Lib.hid hg5; have HN5 := Lib.hid hn5; have HB5 := Lib.hid hb5; clear hl5 hg5 hn5 hb5)
        | (go_at_call 32; refine (call_any HM5.out.shard).mono ?_; rintro e w6 ⟨b6, rfl, hb6, hr6, hw6⟩; have HR6 := Lib.hid hr6; have HW6 := Lib.hid hw6; clear hb6 hr6 hw6)
        | (go_at_call 31; refine (same_yes HR6.out.lies (HL5.out.below HW6.out HG5.out) (by have h1 := HLW.out; have h2 := HTO.out; omega) rfl rfl).mono ?_; rintro e w8 ⟨rfl, hb8⟩; have HB8 := Lib.hid hb8; clear hb8))
        go_roundw
        case rel => exact ⟨j + 1, by omega, by go_num, g', c', _, by rw [HLW.out, HLN.out], ((HM4.out.end_ HL5.out HG5.out HN5.out HB5.out (HLW.out.trans HLN.out)).on HW6.out).on HB8.out⟩
        case measure => simp [intOf]; omega
      by_cases k2 : k = 2
      · subst k2
        by_cases hi : i < 0
        · have HI := Lib.hid hi
          have HRB : Hid (rightB 2 i 0 = false) := Lib.hid (by simp [rightB]; omega)
          clear hi hw1
          go_wp2_with (first
            | (go_at_call 34; refine (cread_low HI.out).mono ?_; rintro e wx ⟨rfl, rfl⟩)
            | (go_at_call 25; refine (rright_s HRB.out _).mono ?_; rintro e w4 ⟨rfl, hb4⟩; have HC4 := Lib.hid ((HC.out.on ((Below.refl _ _).alloc (Nat.le_refl _) _)).on hb4); clear hb4))
          go_roundw
          case rel => exact ⟨j + 1, by omega, by go_num, g, c, ws, rfl, HC4.out⟩
          case measure => simp [intOf]; omega
        obtain ⟨m, rfl⟩ := Int.eq_ofNat_of_zero_le (show 0 ≤ i by omega)
        have HI : Hid (m ≤ 9223372036854775807) := Lib.hid (by omega)
        have HCL : Hid (m % ws.length < ws.length) := Lib.hid (Nat.mod_lt _ HPO.out)
        obtain ⟨x, hx⟩ : ∃ x, ws[m % ws.length]? = some x := ⟨_, List.getElem?_eq_getElem HCL.out⟩
        have HX := Lib.hid hx
        clear hi hw1 hx
        have HST : Hid (stS 2 m 0 ws (many ws.length 2) = (ws, x)) := Lib.hid (stS_read HX.out)
        have HRB : Hid (rightB 2 (m : Int) 0 = true) := Lib.hid (by simp [rightB])
        go_wp2_with (first
        | (go_at_call 34; refine (cread_any HSA.out HX.out HI.out).mono ?_; rintro e w2 ⟨rfl, rfl⟩)
        | (go_at_call 25; refine (rright_s HRB.out _).mono ?_; rintro e w4 ⟨rfl, hb4⟩; have HM4 := Lib.hid ((HC.out.mid (l := [.int .u8 2, .int .i64 (m : Int), .int .u64 0]) ((HC.out.shard.alloc _).drew) (Part.drew (Part.refl _ _))).on hb4); have bx := HM4.out.box.three_; obtain ⟨e0, e1, e2⟩ := bx; have elt := HM4.out.box.lt; clear hb4)
        | (go_at_call 37; refine (whole_n HM4.out.lies HM4.out.glt HLN.out HPO.out HTO.out HUU.out (.inr (.inl ⟨rfl, rfl⟩)) HI.out HST.out).mono ?_; rintro e w5 ⟨g', c', rfl, hl5, hg5, hn5, hb5⟩; have HM5 := Lib.hid (HM4.out.on hb5); have HL5 := Lib.hid hl5; have HG5 := Lib.hid hg5; have HN5 := Lib.hid hn5; have HB5 := Lib.hid hb5; clear hl5 hg5 hn5 hb5)
        | (go_at_call 32; refine (call_any HM5.out.shard).mono ?_; rintro e w6 ⟨b6, rfl, hb6, hr6, hw6⟩; have HR6 := Lib.hid hr6; have HW6 := Lib.hid hw6; clear hb6 hr6 hw6)
        | (go_at_call 31; refine (same_yes HR6.out.lies (HL5.out.below HW6.out HG5.out) (by have h2 := HTO.out; omega) rfl rfl).mono ?_; rintro e w8 ⟨rfl, hb8⟩; have HB8 := Lib.hid hb8; clear hb8))
        go_roundw
        case rel => exact ⟨j + 1, by omega, by go_num, g', c', _, by rw [HLN.out], ((HM4.out.end_ HL5.out HG5.out HN5.out HB5.out HLN.out).on HW6.out).on HB8.out⟩
        case measure => simp [intOf]; omega
      by_cases k3 : k = 3
      · subst k3
        obtain ⟨v, hv⟩ : ∃ v, sumW ws = v := ⟨_, rfl⟩
        have HST : Hid (stS 3 0 0 ws (many ws.length 3) = (ws, v)) := Lib.hid (by rw [← hv]; exact stS_sum ws)
        have HV := Lib.hid hv
        have HRB : Hid (rightB 3 0 0 = true) := Lib.hid (by simp [rightB])
        clear hv hw1
        go_wp2_with (first
        | (go_at_call 35; refine (csum_at HSA.out HV.out).mono ?_; rintro e w2 ⟨rfl, rfl⟩)
        | (go_at_call 25; refine (rright_s HRB.out _).mono ?_; rintro e w4 ⟨rfl, hb4⟩; have HM4 := Lib.hid ((HC.out.mid (l := [.int .u8 3, .int .i64 0, .int .u64 0]) (HC.out.shard.alloc _) (Part.refl _ _)).on hb4); have bx := HM4.out.box.three_; obtain ⟨e0, e1, e2⟩ := bx; have elt := HM4.out.box.lt; clear hb4)
        | (go_at_call 37; refine (whole_n HM4.out.lies HM4.out.glt HLN.out HPO.out HTO.out HUU.out (i := 0) (.inr (.inr (.inl ⟨rfl, rfl, rfl⟩))) (by omega) HST.out).mono ?_; rintro e w5 ⟨g', c', rfl, hl5, hg5, hn5, hb5⟩; have HM5 := Lib.hid (HM4.out.on hb5); have HL5 := Lib.hid hl5; have HG5 := Lib.hid hg5; have HN5 := Lib.hid hn5; have HB5 := Lib.hid hb5; clear hl5 hg5 hn5 hb5)
        | (go_at_call 32; refine (call_any HM5.out.shard).mono ?_; rintro e w6 ⟨b6, rfl, hb6, hr6, hw6⟩; have HR6 := Lib.hid hr6; have HW6 := Lib.hid hw6; clear hb6 hr6 hw6)
        | (go_at_call 31; refine (same_yes HR6.out.lies (HL5.out.below HW6.out HG5.out) (by have h2 := HTO.out; omega) rfl rfl).mono ?_; rintro e w8 ⟨rfl, hb8⟩; have HB8 := Lib.hid hb8; clear hb8))
        go_roundw
        case rel => exact ⟨j + 1, by omega, by go_num, g', c', _, by rw [HLN.out], ((HM4.out.end_ HL5.out HG5.out HN5.out HB5.out HLN.out).on HW6.out).on HB8.out⟩
        case measure => simp [intOf]; omega
      by_cases k4 : k = 4
      · subst k4
        obtain ⟨v, hv⟩ : ∃ v, sumW ws = v := ⟨_, rfl⟩
        obtain ⟨ws2, hws⟩ : ∃ ws2, List.replicate ws.length (0 : Int) = ws2 := ⟨_, rfl⟩
        have HST : Hid (stS 4 0 0 ws (many ws.length 4) = (ws2, v)) := Lib.hid (by rw [← hv, ← hws]; exact stS_take ws)
        have HLW : Hid (ws2.length = ws.length) := Lib.hid (by rw [← hws, List.length_replicate])
        have HV := Lib.hid hv
        have HWS := Lib.hid hws
        have HRB : Hid (rightB 4 0 0 = true) := Lib.hid (by simp [rightB])
        clear hv hws hw1
        go_wp2_with (first
        | (go_at_call 36; refine (ctake_at HSA.out HV.out HWS.out).mono ?_; rintro e w2 ⟨rfl, hS2, hP2⟩; have HM2 := Lib.hid (HC.out.mid hS2 hP2); have bx := HM2.out.box.three_; obtain ⟨m0, m1, m2⟩ := bx; have mf := HM2.out.box.free; have mlt := HM2.out.box.lt; clear hS2 hP2)
        | (go_at_call 25; refine (rright_s HRB.out _).mono ?_; rintro e w4 ⟨rfl, hb4⟩; have HM4 := Lib.hid (((HM2.out.set 2 (.int .u64 0)).set 1 (.int .i64 0)).on hb4); have bx := HM4.out.box.three_; obtain ⟨e0, e1, e2⟩ := bx; have elt := HM4.out.box.lt; clear hb4)
        | (go_at_call 37; refine (whole_n HM4.out.lies HM4.out.glt HLN.out HPO.out HTO.out HUU.out (i := 0) (.inr (.inr (.inr ⟨rfl, rfl, rfl⟩))) (by omega) HST.out).mono ?_; rintro e w5 ⟨g', c', rfl, hl5, hg5, hn5, hb5⟩; have HM5 := Lib.hid (HM4.out.on hb5); have HL5 := Lib.hid hl5; have HG5 := Lib.hid hg5; have HN5 := Lib.hid hn5; have HB5 := Lib.hid hb5; clear hl5 hg5 hn5 hb5)
        | (go_at_call 32; refine (call_any HM5.out.shard).mono ?_; rintro e w6 ⟨b6, rfl, hb6, hr6, hw6⟩; have HR6 := Lib.hid hr6; have HW6 := Lib.hid hw6; clear hb6 hr6 hw6)
        | (go_at_call 31; refine (same_yes HR6.out.lies (HL5.out.below HW6.out HG5.out) (by have h1 := HLW.out; have h2 := HTO.out; omega) rfl rfl).mono ?_; rintro e w8 ⟨rfl, hb8⟩; have HB8 := Lib.hid hb8; clear hb8))
        go_roundw
        case rel => exact ⟨j + 1, by omega, by go_num, g', c', _, by rw [HLW.out, HLN.out], ((HM4.out.end_ HL5.out HG5.out HN5.out HB5.out (HLW.out.trans HLN.out)).on HW6.out).on HB8.out⟩
        case measure => simp [intOf]; omega
      have e1 : (k == 1) = false := by simpa using k1
      have e2 : (k == 2) = false := by simpa using k2
      have e3 : (k == 3) = false := by simpa using k3
      have e4 : (k == 4) = false := by simpa using k4
      clear k1 k2 k3 k4
      go_wp2
      go_roundw
      case rel => exact ⟨j + 1, by omega, by go_num, g, c, ws, rfl, HC.out.on ((Below.refl _ _).alloc (Nat.le_refl _) _)⟩
      case measure => simp [intOf]; omega
    · obtain rfl : j = ops.length := by omega
      go_wp2
      go_ret
      exact ⟨rfl, HC.out.low⟩
end Go.Proofs.Ytcocegneegjcpaa
