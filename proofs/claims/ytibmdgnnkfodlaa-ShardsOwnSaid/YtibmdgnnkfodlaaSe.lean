/- THE WALK of the law 'ShardsOwn'. -/
import Derived.Test.YtibmdgnnkfodlaaSd
import Derived.Test.YtibmdgnnkfodlaaEx
import Derived.BigGuard
namespace Go.Proofs.Ytibmdgnnkfodlaa
open Go Go.RowKit

structure OwnSt (W : World) (n : Nat) (a1 a2 a3 b1 b2 b3 : Nat) (ws : List Int) (wr : World) : Prop where
  a : Shard wr a1 a2 a3 ws
  len : ws.length = n
  b : Shard wr b1 b2 b3 (List.replicate n 0)
  ne : b3 ≠ a3
  lo : W.heap.size ≤ a3
  low : Below W.heap.size W wr
theorem OwnSt.step {W : World} {n a1 a2 a3 b1 b2 b3 : Nat} {ws ws' : List Int} {wr w1 : World} (h : OwnSt W n a1 a2 a3 b1 b2 b3 ws wr) (hS : Shard w1 a1 a2 a3 ws') (hl : ws'.length = ws.length) (hP : Part [a3] wr w1) : OwnSt W n a1 a2 a3 b1 b2 b3 ws' w1 :=
  ⟨hS, hl.trans h.len, h.b.part hP (by simpa using h.b.head.ne h.a.words.row (by decide)) (by simpa using h.b.words.head.ne h.a.words.row (by decide)) (by simpa using h.ne), h.ne, h.lo,
    h.low.trans (hP.below h.low.size (by simpa using h.lo))⟩

structure OwnTwo (W : World) (n a1 a2 a3 b1 b2 b3 : Nat) (ws : List Int) (bx gy gk ck : Nat) (wr : World) : Prop where
  a : Shard wr a1 a2 a3 ws
  len : ws.length = n
  b : Shard wr b1 b2 b3 (List.replicate n 0)
  y : Row wr gy 29 (u64s ws)
  k : wr.ownsRow 0 29 1 (.slice (some ⟨gk, 0, none⟩) ws.length ck) ws.length (u64s ws)
  ny : gy ≠ bx
  nk : gk ≠ bx
  lo : W.heap.size ≤ bx
  low : Below W.heap.size W wr
theorem ownsRow_part {w w' : World} {S : List Nat} {base : Nat} {e : TypeId} {size : Nat} {v : Value} {n : Nat} {xs : List Value} (h : w.ownsRow base e size v n xs) (hp : Part S w w') (hS : ∀ q, v.ownBlock = some q → q ∉ S) : w'.ownsRow base e size v n xs := by
  obtain ⟨h1, h2⟩ := h
  refine ⟨h1, ?_⟩
  rcases h2 with h2 | ⟨g, cap, cur, hv, hg, hh, r⟩
  · exact Or.inl h2
  · subst hv
    exact Or.inr ⟨g, cap, cur, rfl, hg, (hp.block g (lt_of_block hh) (hS g rfl)).trans hh, r⟩
theorem ownsRow_base {w : World} {base base' : Nat} {e : TypeId} {size : Nat} {v : Value} {n : Nat} {xs : List Value} (h : w.ownsRow base e size v n xs) (hb : base' ≤ base) : w.ownsRow base' e size v n xs := by
  obtain ⟨h1, h2⟩ := h
  refine ⟨h1, ?_⟩
  rcases h2 with h2 | ⟨g, cap, cur, hv, hg, r⟩
  · exact Or.inl h2
  · exact Or.inr ⟨g, cap, cur, hv, Nat.le_trans hb hg, r⟩
theorem OwnTwo.step {W : World} {n a1 a2 a3 b1 b2 b3 bx gy gk ck : Nat} {ws : List Int} {zs : List Value} {wr w1 : World} (h : OwnTwo W n a1 a2 a3 b1 b2 b3 ws bx gy gk ck wr) (hx : Row wr bx 29 zs) (hP : Part [bx] wr w1) : OwnTwo W n a1 a2 a3 b1 b2 b3 ws bx gy gk ck w1 :=
  ⟨h.a.part hP (by simpa using h.a.head.ne hx (by decide)) (by simpa using h.a.words.head.ne hx (by decide)) (by simpa using h.a.words.row.ne hx (by decide)), h.len,
    h.b.part hP (by simpa using h.b.head.ne hx (by decide)) (by simpa using h.b.words.head.ne hx (by decide)) (by simpa using h.b.words.row.ne hx (by decide)),
    h.y.part hP (by simpa using h.ny), ownsRow_part h.k hP (fun q hq => by cases hq; simpa using h.nk), h.ny, h.nk, h.lo, h.low.trans (hP.below h.low.size (by simpa using h.lo))⟩

theorem below_undrew {B : Nat} {w w' : World} (h : Below B w w') : Below B w.drew w' := ⟨h.os, h.tape, h.output, h.size, h.block⟩
theorem OwnTwo.drew {W : World} {n a1 a2 a3 b1 b2 b3 bx gy gk ck : Nat} {ws : List Int} {wr : World} (h : OwnTwo W n a1 a2 a3 b1 b2 b3 ws bx gy gk ck wr) : OwnTwo W n a1 a2 a3 b1 b2 b3 ws bx gy gk ck wr.drew :=
  ⟨h.a.drew, h.len, h.b.drew, h.y, h.k, h.ny, h.nk, h.lo, h.low.drew⟩
theorem OwnTwo.on {W : World} {n a1 a2 a3 b1 b2 b3 bx gy gk ck : Nat} {ws : List Int} {wr w1 : World} (h : OwnTwo W n a1 a2 a3 b1 b2 b3 ws bx gy gk ck wr) (hb : Below wr.heap.size wr w1) : OwnTwo W n a1 a2 a3 b1 b2 b3 ws bx gy gk ck w1 :=
  ⟨h.a.on hb, h.len, h.b.on hb, h.y.below hb h.y.lt, ownsRow_part h.k (Part.of_below hb (Nat.le_refl _) []) (by simp), h.ny, h.nk, h.lo, h.low.trans (hb.mono h.low.size)⟩
theorem call_len {w : World} {bc bk bw n : Nat} {ws : List Int} (h : Shard w bc bk bw ws) (hn : ws.length = n) :
    Calls Try.prog 48 #[.pointer (some ⟨bc, 0, none⟩)] w fun e w' => ∃ b, e = .returned (.slice (some ⟨b, 0, none⟩) n n) ∧ w.heap.size ≤ b ∧ Row w' b 29 (u64s ws) ∧ Below w.heap.size w w' := by
  subst hn
  exact call_any h

set_option maxRecDepth 100000 in
set_option maxHeartbeats 3200000 in
theorem own_yes {n : Nat} (h1 : 1 ≤ n) (h64 : n ≤ 64) {A : Option Addr} {cap : Nat} {xs : List Int} (W : World) (hE : Ext .u64 W A xs) (hr : xs.length * 8 ≤ 140737488351232) :
    Calls Try.prog 13 #[.int .i64 (n : Int), .slice A xs.length cap] W fun e w' => e = .returned (.bool true) ∧ Below W.heap.size W w' := by
  obtain ⟨i0, hi, hz0, hz1, hz2⟩ := info_parts info29
  have HE := Lib.hid hE
  have H1 := Lib.hid h1
  have H64 := Lib.hid h64
  clear hE h1 h64
  go_enter Try.func13, Try.ntmps13
  go_wp2_with (first
    | (go_at_call 38; refine (begins_any _).mono ?_; rintro e w0 ⟨rfl, hb⟩; have HB0 := Lib.hid hb; clear hb)
    | (go_at_call 36; (with_reducible refine (begun_yes w0 H1.out H64.out).mono ?_); rintro e w1 ⟨a1, a2, a3, rfl, hc, hk, hw, hS, hb⟩; have HL1 := Lib.hid hw; have HS1 := Lib.hid hS; have HB1 := Lib.hid hb; clear hc hk hw hS hb)
    | (go_at_call 36; (with_reducible refine (begun_yes w1 H1.out H64.out).mono ?_); rintro e w2 ⟨b1, b2, b3, rfl, hc, hk, hw, hS, hb⟩; have HL2 := Lib.hid hw; have HS2 := Lib.hid hS; have HB2 := Lib.hid hb; clear hc hk hw hS hb))
  have hSt : OwnSt W n a1 a2 a3 b1 b2 b3 (List.replicate n 0) w2 := ⟨HS1.out.on HB2.out, by simp, HS2.out, by have := HL2.out; have := HS1.out.words.row.lt; omega, Nat.le_trans HB0.out.size HL1.out,
    HB0.out.trans ((HB1.out.trans (HB2.out.mono HB1.out.size)).mono HB0.out.size)⟩
  have HSt := Lib.hid hSt
  clear hSt
  go_loopw [9] (fun i wr => ∃ k : Nat, k ≤ xs.length ∧ i = .int .i64 k ∧ ∃ ws, OwnSt W n a1 a2 a3 b1 b2 b3 ws wr) (fun i _ => xs.length - (intOf i).toNat)
  case atStart => exact ⟨0, Nat.zero_le _, rfl, _, HSt.out⟩
  case round =>
    obtain ⟨k, hk, rfl, ws, hO⟩ := hrel
    have HO := Lib.hid hO
    clear hO
    by_cases hlt : k < xs.length
    · obtain ⟨x, hx⟩ : ∃ x, xs[k]? = some x := ⟨xs[k], List.getElem?_eq_getElem hlt⟩
      obtain ⟨b, o, rfl, hlt', hc⟩ := (HE.out.on HO.out.low) k x hx
      obtain ⟨y, hy⟩ : ∃ y, ws[k % ws.length]? = some y := ⟨_, List.getElem?_eq_getElem (Nat.mod_lt _ HO.out.a.pos)⟩
      have HY := Lib.hid hy
      have hkk : k ≤ 9223372036854775807 := by omega
      have HK := Lib.hid hkk
      clear hx hy hkk
      go_wp2_with (go_at_call 49; refine (cadd_any HO.out.a HY.out HK.out).mono ?_; rintro e w3 ⟨rfl, hS3, hP3⟩; have HS3 := Lib.hid hS3; have HP3 := Lib.hid hP3; clear hS3 hP3)
      go_roundw
      case rel => exact ⟨k + 1, by omega, by go_num, _, HO.out.step HS3.out (by simp) HP3.out⟩
      case measure => simp [intOf]; omega
    · obtain rfl : k = xs.length := by omega
      go_wp2_with (first
        | (go_at_call 48; (with_reducible refine (call_any HO.out.a).mono ?_); rintro e w4 ⟨bx, rfl, hbx, hrx, hb4⟩; have HBX := Lib.hid hbx; have HRX := Lib.hid hrx; have HB4 := Lib.hid hb4; clear hbx hrx hb4)
        | (go_at_call 48; (with_reducible refine (call_any (HO.out.a.on HB4.out)).mono ?_); rintro e w5 ⟨by_, rfl, hby, hry, hb5⟩; have HBY := Lib.hid hby; have HRY := Lib.hid hry; have HB5 := Lib.hid hb5; clear hby hry hb5)
        | (go_at_call 55; refine (copy_any HRY.out.lies HRY.out.lt HO.out.a.pos (by have := HO.out.a.top; omega)).mono ?_; rintro e w6 ⟨gk, ck, rfl, hgk, hok, hb6⟩; have HGK := Lib.hid hgk; have HOK := Lib.hid hok; have HB6 := Lib.hid hb6; clear hgk hok hb6))
      have hT : OwnTwo W n a1 a2 a3 b1 b2 b3 ws bx by_ gk ck w6 := ⟨((HO.out.a.on HB4.out).on HB5.out).on HB6.out, HO.out.len, ((HO.out.b.on HB4.out).on HB5.out).on HB6.out, HRY.out.below HB6.out HRY.out.lt, ownsRow_base HOK.out (Nat.zero_le _),
        by have := HRX.out.lt; have := HBY.out; omega, by have := HRX.out.lt; have := HB5.out.size; have := HGK.out; omega, by have := HO.out.low.size; have := HBX.out; omega,
        HO.out.low.trans ((HB4.out.trans ((HB5.out.trans (HB6.out.mono HB5.out.size)).mono HB4.out.size)).mono HO.out.low.size)⟩
      have HT := Lib.hid hT
      have HX := Lib.hid (show Row w6 bx 29 (u64s ws) from (HRX.out.below HB5.out HRX.out.lt).below HB6.out (by have := HRX.out.lt; have := HB5.out.size; omega))
      clear hT HRX HRY HOK HB4 HB5 HB6 HGK HBY HBX HSt HS1 HS2 HL1 HL2 HB0 HB1 HB2
      have htop : ws.length ≤ 64 := HO.out.a.top
      go_loopw [13] (fun i wr => ∃ k : Nat, k ≤ ws.length ∧ i = .int .i64 k ∧ ∃ zs : List Int, zs.length = ws.length ∧ Row wr bx 29 (u64s zs) ∧ OwnTwo W n a1 a2 a3 b1 b2 b3 ws bx by_ gk ck wr) (fun i _ => ws.length - (intOf i).toNat)
      case atStart => exact ⟨0, Nat.zero_le _, rfl, ws, rfl, HX.out, HT.out⟩
      case round =>
        obtain ⟨k, hk, rfl, zs, hzs, hrx, hT2⟩ := hrel
        have HT2 := Lib.hid hT2
        have HRX := Lib.hid hrx
        have HZ := Lib.hid hzs
        clear hT2 hrx hzs
        by_cases hlt : k < ws.length
        · obtain ⟨x, hx⟩ : ∃ x, zs[k]? = some x := ⟨_, List.getElem?_eq_getElem (show k < zs.length by rw [HZ.out]; exact hlt)⟩
          have hc := HRX.out.lies k x hx
          have hz := HRX.out.free k
          clear hx
          go_wp2
          go_roundw
          case rel => exact ⟨k + 1, by omega, by go_num, zs.set k (IntKind.u64.wrap (x + 1)), by rw [List.length_set]; exact HZ.out, by rw [← u64s_set]; exact HRX.out.set k _, HT2.out.step HRX.out (Part.set (p := ⟨bx, k, none⟩) (Part.refl [bx] _) (by simp) _)⟩
          case measure => simp [intOf]; omega
        · obtain rfl : k = ws.length := by omega
          have HO2 := Lib.hid (own_of_row (base := 0) (size := 1) HRX.out (n := ws.length) (by simp; exact HZ.out) (Nat.zero_le _) (by unfold maxLen; omega))
          have H3 : Hid (ws.length + 1 ≤ maxLen) := Lib.hid (by unfold maxLen; omega)
          have H4 : Hid ((ws.length + 1) * 8 ≤ 140737488355328) := Lib.hid (by omega)
          go_wp2_with (at_builtin; refine wpList_append_own _ rfl _ _ 60 rfl 0 29 i0 (.int .u64 0) 1 8 Try.underlying60 hi hz0 hz1 hz2 rfl (by decide) _ _ _ rfl (HO2.out.alloc _) ⟨_, 0, none⟩ 1 1 [.int .u64 7] rfl rfl (new_one _ _ _) (one_int _ _) H3.out H4.out (Nat.zero_le _) ?_; intro v' w7 hown1 hgr1 _; have HO7 := Lib.hid hown1; have HG7 := Lib.hid hgr1; clear hown1 hgr1)
          obtain ⟨gv, cv, rfl, _, hgv⟩ := own_some HO7.out (by omega)
          have HP7 : Hid (Part [bx] _ w7) := Lib.hid (((Part.refl [bx] _).alloc _).grown HG7.out (fun q hq _ => by cases hq; simp))
          have HT7 := Lib.hid (HT2.out.step HRX.out HP7.out).drew
          have hcl : w7.cell? ⟨gv, ws.length, none⟩ = some (.int .u64 7) := by
            have := HO7.out.cells (g := gv) rfl ws.length (.int .u64 7) (by rw [List.getElem?_append_right (by simp [HZ.out])]; simp [HZ.out])
            rwa [add_zero_] at this
          have hmk : ∀ w : World, (Instr.makeSlice 60 (.int .i64 (n : Int)) (.int .i64 (n : Int))).run Try.prog w = .ok (.slice (some ⟨w.heap.size, 0, none⟩) n n) (w.alloc (.cells (u64s (List.replicate n 0)).toArray 29)) := fun w => by
            have := run_make (P := Try.prog) w 60 29 i0 (.int .u64 0) Try.underlying60 hi hz0 .i64 .i64 n n (by omega) (by omega) (by rw [hz2]; have := H64.out; omega) (by have := H64.out; omega)
            rw [this, hz1]
            simp only [Int.toNat_natCast]
            rw [← noughts29]
          have HL : Hid (ws.length ≤ 1000000) := Lib.hid (by omega)
          have HN : Hid ((List.replicate n (0 : Int)).length = n) := Lib.hid (by simp)
          have HN' : Hid ((List.replicate n (0 : Int)).length ≤ 1000000) := Lib.hid (by have := H64.out; simp; omega)
          have HC7 : Hid (Below w7.heap.size w7 w7.drew) := Lib.hid (Below.refl _ _).drew
          have HV : Hid (gv < w7.heap.size) := Lib.hid hgv
          have HCL := Lib.hid hcl
          have hs1 : IntKind.i64.wrap ((ws.length : Int) + 1 - 1) = (ws.length : Int) := by rw [IntKind.wrap_i64]; omega
          have hs2 : IntKind.i64.wrap (((ws.length + 1 : Nat) : Int) - 1) = (ws.length : Int) := by rw [IntKind.wrap_i64]; omega
          have hs3 : IntKind.i64.wrap (ws.length : Int) = (ws.length : Int) := by rw [IntKind.wrap_i64]; omega
          have ht0 : (0 : Int) ≤ (ws.length : Int) := by omega
          have ht3 : ws.length < ws.length + 1 := by omega
          have ht1 : (ws.length : Int) < ((ws.length + 1 : Nat) : Int) := by omega
          have ht2 : (ws.length : Int) < (ws.length : Int) + 1 := by omega
          clear hgv hcl
          go_region_with (first
            | (go_at_call 47; (with_reducible refine (same_yes HT7.out.y.lies (own_lies HT7.out.k) HL.out rfl rfl).mono ?_); rintro e w8 ⟨rfl, hb8⟩; have HC8 := Lib.hid (HC7.out.trans hb8); have HT8 := Lib.hid (HT7.out.on hb8); clear hb8)
            | (go_at_call 48; (with_reducible refine (call_len HT8.out.a rfl).mono ?_); rintro e w9 ⟨bz, rfl, _, hz9, hb9⟩; have HZ9 := Lib.hid hz9; have HC9 := Lib.hid (HC8.out.trans (hb9.mono HC8.out.size)); have HT9 := Lib.hid (HT8.out.on hb9); clear hz9 hb9)
            | (go_at_call 47; (with_reducible refine (same_yes HZ9.out.lies (own_lies HT9.out.k) HL.out rfl rfl).mono ?_); rintro e w10 ⟨rfl, hb10⟩; have HC10 := Lib.hid (HC9.out.trans (hb10.mono HC9.out.size)); have HT10 := Lib.hid (HT9.out.on hb10); clear hb10)
            | (go_at_call 48; (with_reducible refine (call_len HT10.out.b HN.out).mono ?_); rintro e w11 ⟨bm, rfl, _, hm11, hb11⟩; have HM11 := Lib.hid hm11; have HC11 := Lib.hid (HC10.out.trans (hb11.mono HC10.out.size)); clear hm11 hb11)
            | (go_at_call 47; refine (same_yes (HM11.out.alloc _).lies (Row.new w11 29 (u64s (List.replicate n 0))).lies HN'.out HN.out HN.out).mono ?_; rintro e w12 ⟨rfl, hb12⟩; have HB12 := Lib.hid hb12; have hc12 := ((HC11.out.alloc HC11.out.size (.cells (u64s (List.replicate n 0)).toArray 29)).trans (HB12.out.mono (by have := HC11.out.size; simp; omega))).cell (p := ⟨gv, ws.length, none⟩) HV.out; rw [HCL.out] at hc12; have HF := Lib.hid ((HC11.out.alloc HC11.out.size (.cells (u64s (List.replicate n 0)).toArray 29)).trans (HB12.out.mono (by have := HC11.out.size; simp; omega))); clear hb12)
            | (go_at_call 48; refine (call_len (HT10.out.b.alloc _) HN.out).mono ?_; rintro e w13 ⟨bm, rfl, _, hm11, hb11⟩; have HM13 := Lib.hid hm11; have HR13 := Lib.hid ((Row.new w10 29 (u64s (List.replicate n 0))).below hb11 (by simp)); have HC13 := Lib.hid ((HC10.out.alloc HC10.out.size _).trans (hb11.mono (by have := HC10.out.size; simp; omega))); clear hm11 hb11)
            | (go_at_call 47; refine (same_yes HM13.out.lies HR13.out.lies HN'.out HN.out HN.out).mono ?_; rintro e w14 ⟨rfl, hb12⟩; have HB14 := Lib.hid hb12; have hc12 := (HC13.out.trans (HB14.out.mono HC13.out.size)).cell (p := ⟨gv, ws.length, none⟩) HV.out; rw [HCL.out] at hc12; have HF := Lib.hid (HC13.out.trans (HB14.out.mono HC13.out.size)); clear hb12))
          all_goals
            go_wp2_with fail
            go_ret
            exact ⟨rfl, HT7.out.low.trans ((below_undrew HF.out).mono HT7.out.low.size)⟩

set_option maxRecDepth 100000 in
theorem own_no {n : Int} (h : n < 1 ∨ 64 < n) {A : Option Addr} {len cap : Nat} (W : World) :
    Calls Try.prog 13 #[.int .i64 n, .slice A len cap] W fun e w' => e = .returned (.bool true) ∧ Below W.heap.size W w' := by
  have H := Lib.hid h
  clear h
  go_enter Try.func13, Try.ntmps13
  go_wp2_with (first
    | (go_at_call 38; refine (begins_any _).mono ?_; rintro e w0 ⟨rfl, hb⟩; have HB0 := Lib.hid hb; clear hb)
    | (go_at_call 36; refine (begun_no H.out).mono ?_; rintro e wx ⟨rfl, rfl⟩))
  go_ret
  exact ⟨rfl, HB0.out⟩
end Go.Proofs.Ytibmdgnnkfodlaa
