/- THE WALK of the law 'ShardsPlain'. -/
import Derived.Test.YtibmdgnnkfodlaaSm
namespace Go.Proofs.Ytibmdgnnkfodlaa
open Go Go.RowKit

/-- the operation under way on the first counter -/
structure Alone (W : World) (n a1 a2 a3 b1 b2 b3 : Nat) (op : List Value) (ws : List Int) (k : Int) (i : Nat) (y : Int) (bp t : Nat) (wr : World) : Prop where
  a : Shard wr a1 a2 a3 (iter ws k i y t).1
  len : ws.length = n
  b : Shard wr b1 b2 b3 ws
  ne : b3 ≠ a3
  la : W.heap.size < a3
  lb : W.heap.size < b3
  box : Row wr W.heap.size 77 op
  low : Below W.heap.size W wr
  p : Row wr bp 120 (opL a2 ws.length k i y t (iter ws k i y t).2)
  lp : W.heap.size < bp
theorem Alone.on {W : World} {n a1 a2 a3 b1 b2 b3 bp t : Nat} {op : List Value} {ws : List Int} {k : Int} {i : Nat} {y : Int} {wr w1 : World} (h : Alone W n a1 a2 a3 b1 b2 b3 op ws k i y bp t wr) (hb : Below wr.heap.size wr w1) : Alone W n a1 a2 a3 b1 b2 b3 op ws k i y bp t w1 :=
  ⟨h.a.on hb, h.len, h.b.on hb, h.ne, h.la, h.lb, h.box.below hb h.box.lt, h.low.trans (hb.mono h.low.size), h.p.below hb h.p.lt, h.lp⟩
theorem Alone.step {W : World} {n a1 a2 a3 b1 b2 b3 bp t : Nat} {op : List Value} {ws : List Int} {k : Int} {i : Nat} {y : Int} {wr w1 : World} (h : Alone W n a1 a2 a3 b1 b2 b3 op ws k i y bp t wr)
    (hW : Words w1 a2 a3 (iter ws k i y (t + 1)).1) (hR : Row w1 bp 120 (opL a2 ws.length k i y (t + 1) (iter ws k i y (t + 1)).2)) (hP : Part [a3, bp] wr w1) : Alone W n a1 a2 a3 b1 b2 b3 op ws k i y bp (t + 1) w1 := by
  have n1 : b1 ∉ [a3, bp] := by simp; exact ⟨h.b.head.ne h.a.words.row (by decide), h.b.head.ne h.p (by decide)⟩
  have n2 : b2 ∉ [a3, bp] := by simp; exact ⟨h.b.words.head.ne h.a.words.row (by decide), h.b.words.head.ne h.p (by decide)⟩
  have n3 : b3 ∉ [a3, bp] := by simp; exact ⟨h.ne, h.b.words.row.ne h.p (by decide)⟩
  have n4 : a1 ∉ [a3, bp] := by simp; exact ⟨h.a.head.ne h.a.words.row (by decide), h.a.head.ne h.p (by decide)⟩
  have n5 : W.heap.size ∉ [a3, bp] := by have := h.la; have := h.lp; simp; omega
  exact ⟨⟨h.a.head.part hP n4, hW, by rw [iter_length]; have := h.a.pos; rwa [iter_length] at this, by rw [iter_length]; have := h.a.top; rwa [iter_length] at this⟩, h.len, h.b.part hP n1 n2 n3, h.ne, h.la, h.lb, h.box.part hP n5,
    h.low.trans (hP.below h.low.size (by have := h.la; have := h.lp; simp; omega)), hR, h.lp⟩

/-- both are through -/
structure Fin (W : World) (a1 a2 a3 b1 b2 b3 : Nat) (ws : List Int) (bp n : Nat) (k : Int) (i : Nat) (y s : Int) (wr : World) : Prop where
  a : Shard wr a1 a2 a3 ws
  b : Shard wr b1 b2 b3 ws
  p : Row wr bp 120 (opL a2 n k i y (many n k) s)
  low : Below W.heap.size W wr
theorem Fin.on {W : World} {a1 a2 a3 b1 b2 b3 bp n i : Nat} {ws : List Int} {k y s : Int} {wr w1 : World} (h : Fin W a1 a2 a3 b1 b2 b3 ws bp n k i y s wr) (hb : Below wr.heap.size wr w1) : Fin W a1 a2 a3 b1 b2 b3 ws bp n k i y s w1 :=
  ⟨h.a.on hb, h.b.on hb, h.p.below hb h.p.lt, h.low.trans (hb.mono h.low.size)⟩
theorem Fin.alloc {W : World} {a1 a2 a3 b1 b2 b3 bp n i : Nat} {ws : List Int} {k y s : Int} {wr : World} (h : Fin W a1 a2 a3 b1 b2 b3 ws bp n k i y s wr) (o : Obj) : Fin W a1 a2 a3 b1 b2 b3 ws bp n k i y s (wr.alloc o) :=
  ⟨h.a.alloc o, h.b.alloc o, h.p.alloc o, h.low.alloc h.low.size o⟩
theorem Alone.fin {W : World} {n a1 a2 a3 b1 b2 b3 bp t : Nat} {op : List Value} {ws ws' : List Int} {k : Int} {i : Nat} {y s : Int} {wr w1 : World} (h : Alone W n a1 a2 a3 b1 b2 b3 op ws k i y bp t wr) (ht : t = many ws.length k) (he : iter ws k i y t = (ws', s))
    (hS : Shard w1 b1 b2 b3 ws') (hP : Part [b3] wr w1) : Fin W a1 a2 a3 b1 b2 b3 ws' bp ws.length k i y s w1 := by
  have n1 : a1 ∉ [b3] := by simpa using h.a.head.ne h.b.words.row (by decide)
  have n2 : a2 ∉ [b3] := by simpa using h.a.words.head.ne h.b.words.row (by decide)
  have n3 : a3 ∉ [b3] := by simpa using fun e => h.ne e.symm
  have n4 : bp ∉ [b3] := by simpa using h.p.ne h.b.words.row (by decide)
  have ha := h.a
  have hp := h.p
  rw [he] at ha hp
  subst ht
  exact ⟨ha.part hP n1 n2 n3, hS, hp.part hP n4, h.low.trans (hP.below h.low.size (by have := h.lb; simp; omega))⟩
theorem done_over {w : World} {bk n bp : Nat} {k : Int} {i : Nat} {y : Int} {s : Int} (hp : Row w bp 120 (opL bk n k i y (many n k) s)) :
    Calls Try.prog 45 #[.pointer (some ⟨bp, 0, none⟩)] w fun e w' => e = .returned (.bool true) ∧ w = w' := by
  have := done_op hp
  rwa [show decide (many n k ≤ many n k) = true by simp] at this
theorem answer_over {w : World} {bk n bp : Nat} {k : Int} {i : Nat} {y : Int} {s : Int} (hp : Row w bp 120 (opL bk n k i y (many n k) s)) :
    Calls Try.prog 46 #[.pointer (some ⟨bp, 0, none⟩)] w fun e w' => e = .returned (.int .u64 s) ∧ w = w' := by
  have := answer_op hp
  rwa [if_pos (Nat.le_refl _)] at this
theorem step_run' {w : World} {bk bw bp n : Nat} {ws : List Int} (h : Words w bk bw ws) (hl : ws.length = n) (hn : 0 < n) {k : Int} {i : Nat} {y : Int} (hr : RightN k i y) {t : Nat} {s x : Int} (ht : t < many n k) (hp : Row w bp 120 (opL bk n k i y t s)) (hx : ws[cellOf n k i t]? = some x) :
    Calls Try.prog 42 #[.pointer (some ⟨bp, 0, none⟩)] w
      (Stepped w bk bw bp (ws.set (cellOf n k i t) (putOf k y x)) (opL bk n k i y (t + 1) (sumOf k y s x)) (.tuple #[didV n k i y t x, .bool (decide (many n k ≤ t + 1))])) := by
  subst hl
  exact step_run h hn hr ht hp hx
theorem Alone.run {W : World} {n a1 a2 a3 b1 b2 b3 bp t : Nat} {op : List Value} {ws : List Int} {k : Int} {i : Nat} {y : Int} {wr : World} (h : Alone W n a1 a2 a3 b1 b2 b3 op ws k i y bp t wr) (hr : RightN k i y) (ht : t < many ws.length k) :
    Calls Try.prog 42 #[.pointer (some ⟨bp, 0, none⟩)] wr fun e w1 => ∃ did, e = .returned (.tuple #[did, .bool (decide (many ws.length k ≤ t + 1))]) ∧ Alone W n a1 a2 a3 b1 b2 b3 op ws k i y bp (t + 1) w1 := by
  have hn := h.b.pos
  have hl : (iter ws k i y t).1.length = ws.length := iter_length ..
  refine (step_run' h.a.words hl hn hr ht h.p (get_some (by rw [hl]; exact cell_lt hn ht))).mono fun e w1 ⟨he, hW, hR, hP⟩ => ⟨_, he, h.step hW hR hP⟩

set_option maxRecDepth 100000 in
set_option maxHeartbeats 3200000 in
theorem plain_no {n : Int} (h : n < 1 ∨ 64 < n) {A : Option Addr} {len cap : Nat} {k i y : Int} (W : World) :
    Calls Try.prog 12 #[.int .i64 n, .slice A len cap, .agg #[.int .u8 k, .int .i64 i, .int .u64 y]] W fun e w' => e = .returned (.bool true) ∧ Below W.heap.size W w' := by
  have H := Lib.hid h
  clear h
  go_enter Try.func12, Try.ntmps12
  go_wp2_with (first
    | (go_at_call 38; refine (begins_any _).mono ?_; rintro e w0 ⟨rfl, hb⟩; have HB0 := Lib.hid hb; clear hb)
    | (go_at_call 36; refine (begun_no H.out).mono ?_; rintro e wx ⟨rfl, rfl⟩))
  go_ret
  exact ⟨rfl, ((((Part.refl [] W).alloc _).on HB0.out).end_)⟩

set_option maxRecDepth 100000 in
set_option maxHeartbeats 6400000 in
theorem plain_wrong {n : Nat} (h1 : 1 ≤ n) (h64 : n ≤ 64) {A : Option Addr} {cap : Nat} {xs : List Int} {k i y : Int} (W : World) (hE : Ext .u64 W A xs) (hr : xs.length * 8 ≤ 140737488351232) (hrb : rightB k i y = false) :
    Calls Try.prog 12 #[.int .i64 (n : Int), .slice A xs.length cap, .agg #[.int .u8 k, .int .i64 i, .int .u64 y]] W fun e w' => e = .returned (.bool true) ∧ Below W.heap.size W w' := by
  have HE := Lib.hid hE
  have H1 := Lib.hid h1
  have H64 := Lib.hid h64
  have HRB0 := Lib.hid hrb
  clear hE h1 h64 hrb
  go_enter Try.func12, Try.ntmps12
  go_wp2_with (first
    | (go_at_call 38; refine (begins_any _).mono ?_; rintro e w0 ⟨rfl, hb⟩; have HB0 := Lib.hid hb; clear hb)
    | (go_at_call 36; (with_reducible refine (begun_yes w0 H1.out H64.out).mono ?_); rintro e w1 ⟨a1, a2, a3, rfl, hc, hk, hw, hS, hb⟩; have HL1 := Lib.hid hw; have HS1 := Lib.hid hS; have HB1 := Lib.hid hb; clear hc hk hw hS hb)
    | (go_at_call 36; (with_reducible refine (begun_yes w1 H1.out H64.out).mono ?_); rintro e w2 ⟨b1, b2, b3, rfl, hc, hk, hw, hS, hb⟩; have HL2 := Lib.hid hw; have HS2 := Lib.hid hS; have HB2 := Lib.hid hb; clear hc hk hw hS hb))
  have hbox : Row w0 W.heap.size 77 [.int .u8 k, .int .i64 i, .int .u64 y] := (Row.new W _ _).below HB0.out (by simp)
  have hT : Twin W n a1 a2 a3 b1 b2 b3 [.int .u8 k, .int .i64 i, .int .u64 y] (List.replicate n 0) w2 := by
    have z0 := hbox.lt
    have z1 := HL1.out
    have z2 := HL2.out
    have z3 := HB1.out.size
    have z4 := HS1.out.words.row.lt
    exact ⟨HS1.out.on HB2.out, by simp, HS2.out, by omega, by omega, by omega, (hbox.below HB1.out hbox.lt).below HB2.out (by omega), (((((Part.refl [] W).alloc _).on HB0.out).on HB1.out).on HB2.out).end_⟩
  have HT := Lib.hid hT
  clear hT hbox HB0 HB1 HB2 HS1 HS2 HL1 HL2
  go_loopw [11] (fun u wr => ∃ j : Nat, j ≤ xs.length ∧ u = .int .i64 j ∧ ∃ ws, Twin W n a1 a2 a3 b1 b2 b3 [.int .u8 k, .int .i64 i, .int .u64 y] ws wr) (fun u _ => xs.length - (intOf u).toNat)
  case atStart => exact ⟨0, Nat.zero_le _, rfl, _, HT.out⟩
  case round =>
    obtain ⟨j, hj, rfl, ws, hO⟩ := hrel
    have HO := Lib.hid hO
    clear hO HT
    by_cases hlt : j < xs.length
    · obtain ⟨x, hx⟩ : ∃ x, xs[j]? = some x := ⟨xs[j], List.getElem?_eq_getElem hlt⟩
      obtain ⟨b, o, rfl, hlt', hc⟩ := (HE.out.on HO.out.low) j x hx
      obtain ⟨z, hz⟩ : ∃ z, ws[j % ws.length]? = some z := ⟨_, List.getElem?_eq_getElem (Nat.mod_lt _ HO.out.a.pos)⟩
      have HZ := Lib.hid hz
      have hkk : j ≤ 9223372036854775807 := by omega
      have HK := Lib.hid hkk
      have hbl : b < W.heap.size := by
        obtain ⟨b', o', e, hlt2, _⟩ := HE.out j x hx
        cases e
        exact hlt2
      have HBL := Lib.hid hbl
      have HC := Lib.hid hc
      clear hx hz hkk hbl
      go_wp2_with (first
        | (go_at_call 49; (with_reducible refine (cadd_any HO.out.a HZ.out HK.out).mono ?_); rintro e w3 ⟨rfl, hS3, hP3⟩; have HS3 := Lib.hid hS3; have HP3 := Lib.hid hP3; have hc3 : w3.cell? ⟨b, o + j, none⟩ = some (.int .u64 x) := (World.cell?_of_block (w := wr) (a := ⟨b, o + j, none⟩) (HP3.out.block b hlt' (by have := HO.out.la; have := HBL.out; simp; omega))).trans HC.out; clear hS3 hP3)
        | (go_at_call 49; refine (cadd_any (HO.out.b.part HP3.out (by simpa using HO.out.b.head.ne HO.out.a.words.row (by decide)) (by simpa using HO.out.b.words.head.ne HO.out.a.words.row (by decide)) (by simpa using HO.out.ne)) HZ.out HK.out).mono ?_; rintro e w4 ⟨rfl, hS4, hP4⟩; have HS4 := Lib.hid hS4; have HP4 := Lib.hid hP4; clear hS4 hP4))
      go_roundw
      case rel => exact ⟨j + 1, by omega, by go_num, _, HO.out.both (by simp) HS3.out HP3.out HS4.out HP4.out⟩
      case measure => simp [intOf]; omega
    · obtain rfl : j = xs.length := by omega
      obtain ⟨o0, o1, o2⟩ : wr.cell? ⟨W.heap.size, 0, none⟩ = some (.int .u8 k) ∧ wr.cell? ⟨W.heap.size, 1, none⟩ = some (.int .i64 i) ∧ wr.cell? ⟨W.heap.size, 2, none⟩ = some (.int .u64 y) := ⟨HO.out.box.cell 0, HO.out.box.cell 1, HO.out.box.cell 2⟩
      have HRB := HRB0
      have HL : Hid (ws.length ≤ 1000000) := Lib.hid (by have := HO.out.a.top; omega)
      go_wp2_with (first
        | (go_at_call 40; refine (start_no HRB.out).mono ?_; rintro e w5 ⟨rfl, hb5⟩; have HB5 := Lib.hid hb5; have HT5 := Lib.hid (HO.out.on hb5); clear hb5)
        | (go_at_call 48; (with_reducible refine (call_any HT5.out.a).mono ?_); rintro e w6 ⟨g6, rfl, _, hr6, hb6⟩; have HR6 := Lib.hid hr6; have HB6 := Lib.hid hb6; have HT6 := Lib.hid (HT5.out.on hb6); clear hr6 hb6)
        | (go_at_call 48; (with_reducible refine (call_any HT6.out.b).mono ?_); rintro e w7 ⟨g7, rfl, _, hr7, hb7⟩; have HR7 := Lib.hid hr7; have HB7 := Lib.hid hb7; have HT7 := Lib.hid (HT6.out.on hb7); clear hr7 hb7)
        | (go_at_call 47; refine (same_yes (HR6.out.below HB7.out HR6.out.lt).lies HR7.out.lies HL.out rfl rfl).mono ?_; rintro e w8 ⟨rfl, hb8⟩; have HT8 := Lib.hid (HT7.out.on hb8); clear hb8))
      go_ret
      exact ⟨rfl, HT8.out.low⟩

set_option maxRecDepth 100000 in
set_option maxHeartbeats 6400000 in
theorem plain_add {n : Nat} (h1 : 1 ≤ n) (h64 : n ≤ 64) {A : Option Addr} {cap : Nat} {xs : List Int} {m : Nat} {y : Int} (W : World) (hE : Ext .u64 W A xs) (hr : xs.length * 8 ≤ 140737488351232) (hm : m ≤ 9223372036854775807) :
    Calls Try.prog 12 #[.int .i64 (n : Int), .slice A xs.length cap, .agg #[.int .u8 1, .int .i64 (m : Int), .int .u64 y]] W fun e w' => e = .returned (.bool true) ∧ Below W.heap.size W w' := by
  have HE := Lib.hid hE
  have H1 := Lib.hid h1
  have H64 := Lib.hid h64
  have HI := Lib.hid hm
  clear hE h1 h64 hm
  go_enter Try.func12, Try.ntmps12
  go_wp2_with (first
    | (go_at_call 38; refine (begins_any _).mono ?_; rintro e w0 ⟨rfl, hb⟩; have HB0 := Lib.hid hb; clear hb)
    | (go_at_call 36; (with_reducible refine (begun_yes w0 H1.out H64.out).mono ?_); rintro e w1 ⟨a1, a2, a3, rfl, hc, hk, hw, hS, hb⟩; have HL1 := Lib.hid hw; have HS1 := Lib.hid hS; have HB1 := Lib.hid hb; clear hc hk hw hS hb)
    | (go_at_call 36; (with_reducible refine (begun_yes w1 H1.out H64.out).mono ?_); rintro e w2 ⟨b1, b2, b3, rfl, hc, hk, hw, hS, hb⟩; have HL2 := Lib.hid hw; have HS2 := Lib.hid hS; have HB2 := Lib.hid hb; clear hc hk hw hS hb))
  have hbox : Row w0 W.heap.size 77 [.int .u8 1, .int .i64 (m : Int), .int .u64 y] := (Row.new W _ _).below HB0.out (by simp)
  have hT : Twin W n a1 a2 a3 b1 b2 b3 [.int .u8 1, .int .i64 (m : Int), .int .u64 y] (List.replicate n 0) w2 := by
    have z0 := hbox.lt
    have z1 := HL1.out
    have z2 := HL2.out
    have z3 := HB1.out.size
    have z4 := HS1.out.words.row.lt
    exact ⟨HS1.out.on HB2.out, by simp, HS2.out, by omega, by omega, by omega, (hbox.below HB1.out hbox.lt).below HB2.out (by omega), (((((Part.refl [] W).alloc _).on HB0.out).on HB1.out).on HB2.out).end_⟩
  have HT := Lib.hid hT
  clear hT hbox HB0 HB1 HB2 HS1 HS2 HL1 HL2
  go_loopw [11] (fun u wr => ∃ j : Nat, j ≤ xs.length ∧ u = .int .i64 j ∧ ∃ ws, Twin W n a1 a2 a3 b1 b2 b3 [.int .u8 1, .int .i64 (m : Int), .int .u64 y] ws wr) (fun u _ => xs.length - (intOf u).toNat)
  case atStart => exact ⟨0, Nat.zero_le _, rfl, _, HT.out⟩
  case round =>
    obtain ⟨j, hj, rfl, ws, hO⟩ := hrel
    have HO := Lib.hid hO
    clear hO HT
    by_cases hlt : j < xs.length
    · obtain ⟨x, hx⟩ : ∃ x, xs[j]? = some x := ⟨xs[j], List.getElem?_eq_getElem hlt⟩
      obtain ⟨b, o, rfl, hlt', hc⟩ := (HE.out.on HO.out.low) j x hx
      obtain ⟨z, hz⟩ : ∃ z, ws[j % ws.length]? = some z := ⟨_, List.getElem?_eq_getElem (Nat.mod_lt _ HO.out.a.pos)⟩
      have HZ := Lib.hid hz
      have hkk : j ≤ 9223372036854775807 := by omega
      have HK := Lib.hid hkk
      have hbl : b < W.heap.size := by
        obtain ⟨b', o', e, hlt2, _⟩ := HE.out j x hx
        cases e
        exact hlt2
      have HBL := Lib.hid hbl
      have HC := Lib.hid hc
      clear hx hz hkk hbl
      go_wp2_with (first
        | (go_at_call 49; (with_reducible refine (cadd_any HO.out.a HZ.out HK.out).mono ?_); rintro e w3 ⟨rfl, hS3, hP3⟩; have HS3 := Lib.hid hS3; have HP3 := Lib.hid hP3; have hc3 : w3.cell? ⟨b, o + j, none⟩ = some (.int .u64 x) := (World.cell?_of_block (w := wr) (a := ⟨b, o + j, none⟩) (HP3.out.block b hlt' (by have := HO.out.la; have := HBL.out; simp; omega))).trans HC.out; clear hS3 hP3)
        | (go_at_call 49; refine (cadd_any (HO.out.b.part HP3.out (by simpa using HO.out.b.head.ne HO.out.a.words.row (by decide)) (by simpa using HO.out.b.words.head.ne HO.out.a.words.row (by decide)) (by simpa using HO.out.ne)) HZ.out HK.out).mono ?_; rintro e w4 ⟨rfl, hS4, hP4⟩; have HS4 := Lib.hid hS4; have HP4 := Lib.hid hP4; clear hS4 hP4))
      go_roundw
      case rel => exact ⟨j + 1, by omega, by go_num, _, HO.out.both (by simp) HS3.out HP3.out HS4.out HP4.out⟩
      case measure => simp [intOf]; omega
    · obtain rfl : j = xs.length := by omega
      obtain ⟨o0, o1, o2⟩ : wr.cell? ⟨W.heap.size, 0, none⟩ = some (.int .u8 1) ∧ wr.cell? ⟨W.heap.size, 1, none⟩ = some (.int .i64 (m : Int)) ∧ wr.cell? ⟨W.heap.size, 2, none⟩ = some (.int .u64 y) := ⟨HO.out.box.cell 0, HO.out.box.cell 1, HO.out.box.cell 2⟩
      have HRN : Hid (RightN 1 m y) := Lib.hid (by simp [RightN])
      go_wp2_with (go_at_call 40; refine (start_right HO.out.a HRN.out).mono ?_; rintro e w5 ⟨bp, rfl, hbp5, hr5, hb5⟩; have HBP := Lib.hid hbp5; have HR5 := Lib.hid hr5; have HB5 := Lib.hid hb5; clear hbp5 hr5 hb5)
      have hAl : Alone W n a1 a2 a3 b1 b2 b3 [.int .u8 1, .int .i64 (m : Int), .int .u64 y] ws 1 m y bp 0 w5 := by
        have hT5 := HO.out.on HB5.out
        exact ⟨hT5.a, hT5.len, hT5.b, hT5.ne, hT5.la, hT5.lb, hT5.box, hT5.low, HR5.out, by have := HBP.out; have := HO.out.box.lt; omega⟩
      have HAl := Lib.hid hAl
      have hpos := HO.out.a.pos
      have hwl := HO.out.len
      have HMP : Hid (0 < many ws.length 1) := Lib.hid (many_pos hpos 1)
      have HML : Hid (many ws.length 1 ≤ 64) := Lib.hid (by have := many_le hpos 1; have := HO.out.a.top; omega)
      have HPOS := Lib.hid hpos
      clear hAl hpos hwl HR5 HB5 HBP o0 o1 o2
      go_loopw [14, 15] (fun u v wr => ∃ t : Nat, t ≤ many ws.length 1 ∧ u = .int .i64 t ∧ v = .bool (decide (many ws.length 1 ≤ t)) ∧ Alone W n a1 a2 a3 b1 b2 b3 [.int .u8 1, .int .i64 (m : Int), .int .u64 y] ws 1 m y bp t wr) (fun u _ _ => many ws.length 1 - (intOf u).toNat)
      case atStart => exact ⟨0, Nat.zero_le _, rfl, by have := HMP.out; simp; omega, HAl.out⟩
      case round =>
        obtain ⟨t, ht, rfl, rfl, hA⟩ := hrel
        have HA := Lib.hid hA
        clear hA
        by_cases hlt : t < many ws.length 1
        · have hd : decide (many ws.length 1 ≤ t) = false := by simp; omega
          have ht64 : t ≤ 63 := by have := HML.out; omega
          have HLT := Lib.hid hlt
          go_wp2_with (go_at_call 42; refine (HA.out.run HRN.out HLT.out).mono ?_; rintro e w6 ⟨did, rfl, hA6⟩; have HA6 := Lib.hid hA6; clear hA6)
          go_roundw
          case rel => exact ⟨t + 1, by omega, by go_num, rfl, HA6.out⟩
          case measure => simp [intOf]; omega
        · have hd : decide (many ws.length 1 ≤ t) = true := by simp; omega
          have HTE : Hid (t = many ws.length 1) := Lib.hid (by omega)
          have HLW : Hid (ws.length ≤ 1000000) := Lib.hid (by have := HA.out.b.top; omega)
          obtain ⟨q0, q1, q2⟩ : wr.cell? ⟨W.heap.size, 0, none⟩ = some (.int .u8 1) ∧ wr.cell? ⟨W.heap.size, 1, none⟩ = some (.int .i64 (m : Int)) ∧ wr.cell? ⟨W.heap.size, 2, none⟩ = some (.int .u64 y) := ⟨HA.out.box.cell 0, HA.out.box.cell 1, HA.out.box.cell 2⟩
          obtain ⟨x, hx⟩ : ∃ x, ws[m % ws.length]? = some x := ⟨_, get_some (Nat.mod_lt _ HA.out.b.pos)⟩
          have HX := Lib.hid hx
          have HIT : Hid (iter ws 1 m y t = (ws.set (m % ws.length) (IntKind.u64.wrap (x + y)), IntKind.u64.wrap (x + y))) := Lib.hid (by rw [HTE.out]; exact iter_add ws m y hx)
          clear hx
          go_wp2_with (first
            | (go_at_call 49; refine (cadd_any HA.out.b HX.out HI.out).mono ?_; rintro e w7 ⟨rfl, hS7, hP7⟩; have HF7 := Lib.hid (HA.out.fin HTE.out HIT.out hS7 hP7); clear hS7 hP7)
            | (go_at_call 42; refine (step_over (Nat.le_refl _) HF7.out.p).mono ?_; rintro e w8 ⟨rfl, hb8⟩; have HF8 := Lib.hid (HF7.out.on hb8); clear hb8)
            | (go_at_call 45; refine (done_over (HF8.out.p.alloc _)).mono ?_; rintro e wx ⟨rfl, rfl⟩)
            | (go_at_call 46; refine (answer_over (HF8.out.p.alloc _)).mono ?_; rintro e wx ⟨rfl, rfl⟩)
            | (go_at_call 48; (with_reducible refine (call_any (HF8.out.a.alloc _)).mono ?_); rintro e w9 ⟨g9, rfl, _, hr9, hb9⟩; have HR9 := Lib.hid hr9; have HF9 := Lib.hid ((HF8.out.alloc _).on hb9); have HD9 := Lib.hid ((Row.new w8 45 [.int .u8 0, .int .i64 0, .int .u64 0, .int .u64 0, .bool false]).below hb9 (by simp)); clear hr9 hb9)
            | (go_at_call 48; (with_reducible refine (call_any HF9.out.b).mono ?_); rintro e w10 ⟨g10, rfl, _, hr10, hb10⟩; have HR10 := Lib.hid hr10; have HR9' := Lib.hid (HR9.out.below hb10 HR9.out.lt); have HF10 := Lib.hid (HF9.out.on hb10); have HD10 := Lib.hid (HD9.out.below hb10 HD9.out.lt); have HLE := Lib.hid (Nat.le_trans HF10.out.b.top (by omega : 64 ≤ 1000000)); clear hr10 hb10)
            | (go_at_call 47; refine (same_yes HR9'.out.lies HR10.out.lies HLE.out (by simp) (by simp)).mono ?_; rintro e w11 ⟨rfl, hb11⟩; have HF11 := Lib.hid (HF10.out.on hb11); obtain ⟨d0, d1, d2, d3, d4⟩ := (HD10.out.below hb11 HD10.out.lt).five; clear hb11))
          go_ret
          exact ⟨rfl, HF11.out.low⟩

set_option maxRecDepth 100000 in
set_option maxHeartbeats 6400000 in
theorem plain_read {n : Nat} (h1 : 1 ≤ n) (h64 : n ≤ 64) {A : Option Addr} {cap : Nat} {xs : List Int} {m : Nat} (W : World) (hE : Ext .u64 W A xs) (hr : xs.length * 8 ≤ 140737488351232) (hm : m ≤ 9223372036854775807) :
    Calls Try.prog 12 #[.int .i64 (n : Int), .slice A xs.length cap, .agg #[.int .u8 2, .int .i64 (m : Int), .int .u64 0]] W fun e w' => e = .returned (.bool true) ∧ Below W.heap.size W w' := by
  have HE := Lib.hid hE
  have H1 := Lib.hid h1
  have H64 := Lib.hid h64
  have HI := Lib.hid hm
  clear hE h1 h64 hm
  go_enter Try.func12, Try.ntmps12
  go_wp2_with (first
    | (go_at_call 38; refine (begins_any _).mono ?_; rintro e w0 ⟨rfl, hb⟩; have HB0 := Lib.hid hb; clear hb)
    | (go_at_call 36; (with_reducible refine (begun_yes w0 H1.out H64.out).mono ?_); rintro e w1 ⟨a1, a2, a3, rfl, hc, hk, hw, hS, hb⟩; have HL1 := Lib.hid hw; have HS1 := Lib.hid hS; have HB1 := Lib.hid hb; clear hc hk hw hS hb)
    | (go_at_call 36; (with_reducible refine (begun_yes w1 H1.out H64.out).mono ?_); rintro e w2 ⟨b1, b2, b3, rfl, hc, hk, hw, hS, hb⟩; have HL2 := Lib.hid hw; have HS2 := Lib.hid hS; have HB2 := Lib.hid hb; clear hc hk hw hS hb))
  have hbox : Row w0 W.heap.size 77 [.int .u8 2, .int .i64 (m : Int), .int .u64 0] := (Row.new W _ _).below HB0.out (by simp)
  have hT : Twin W n a1 a2 a3 b1 b2 b3 [.int .u8 2, .int .i64 (m : Int), .int .u64 0] (List.replicate n 0) w2 := by
    have z0 := hbox.lt
    have z1 := HL1.out
    have z2 := HL2.out
    have z3 := HB1.out.size
    have z4 := HS1.out.words.row.lt
    exact ⟨HS1.out.on HB2.out, by simp, HS2.out, by omega, by omega, by omega, (hbox.below HB1.out hbox.lt).below HB2.out (by omega), (((((Part.refl [] W).alloc _).on HB0.out).on HB1.out).on HB2.out).end_⟩
  have HT := Lib.hid hT
  clear hT hbox HB0 HB1 HB2 HS1 HS2 HL1 HL2
  go_loopw [11] (fun u wr => ∃ j : Nat, j ≤ xs.length ∧ u = .int .i64 j ∧ ∃ ws, Twin W n a1 a2 a3 b1 b2 b3 [.int .u8 2, .int .i64 (m : Int), .int .u64 0] ws wr) (fun u _ => xs.length - (intOf u).toNat)
  case atStart => exact ⟨0, Nat.zero_le _, rfl, _, HT.out⟩
  case round =>
    obtain ⟨j, hj, rfl, ws, hO⟩ := hrel
    have HO := Lib.hid hO
    clear hO HT
    by_cases hlt : j < xs.length
    · obtain ⟨x, hx⟩ : ∃ x, xs[j]? = some x := ⟨xs[j], List.getElem?_eq_getElem hlt⟩
      obtain ⟨b, o, rfl, hlt', hc⟩ := (HE.out.on HO.out.low) j x hx
      obtain ⟨z, hz⟩ : ∃ z, ws[j % ws.length]? = some z := ⟨_, List.getElem?_eq_getElem (Nat.mod_lt _ HO.out.a.pos)⟩
      have HZ := Lib.hid hz
      have hkk : j ≤ 9223372036854775807 := by omega
      have HK := Lib.hid hkk
      have hbl : b < W.heap.size := by
        obtain ⟨b', o', e, hlt2, _⟩ := HE.out j x hx
        cases e
        exact hlt2
      have HBL := Lib.hid hbl
      have HC := Lib.hid hc
      clear hx hz hkk hbl
      go_wp2_with (first
        | (go_at_call 49; (with_reducible refine (cadd_any HO.out.a HZ.out HK.out).mono ?_); rintro e w3 ⟨rfl, hS3, hP3⟩; have HS3 := Lib.hid hS3; have HP3 := Lib.hid hP3; have hc3 : w3.cell? ⟨b, o + j, none⟩ = some (.int .u64 x) := (World.cell?_of_block (w := wr) (a := ⟨b, o + j, none⟩) (HP3.out.block b hlt' (by have := HO.out.la; have := HBL.out; simp; omega))).trans HC.out; clear hS3 hP3)
        | (go_at_call 49; refine (cadd_any (HO.out.b.part HP3.out (by simpa using HO.out.b.head.ne HO.out.a.words.row (by decide)) (by simpa using HO.out.b.words.head.ne HO.out.a.words.row (by decide)) (by simpa using HO.out.ne)) HZ.out HK.out).mono ?_; rintro e w4 ⟨rfl, hS4, hP4⟩; have HS4 := Lib.hid hS4; have HP4 := Lib.hid hP4; clear hS4 hP4))
      go_roundw
      case rel => exact ⟨j + 1, by omega, by go_num, _, HO.out.both (by simp) HS3.out HP3.out HS4.out HP4.out⟩
      case measure => simp [intOf]; omega
    · obtain rfl : j = xs.length := by omega
      obtain ⟨o0, o1, o2⟩ : wr.cell? ⟨W.heap.size, 0, none⟩ = some (.int .u8 2) ∧ wr.cell? ⟨W.heap.size, 1, none⟩ = some (.int .i64 (m : Int)) ∧ wr.cell? ⟨W.heap.size, 2, none⟩ = some (.int .u64 0) := ⟨HO.out.box.cell 0, HO.out.box.cell 1, HO.out.box.cell 2⟩
      have HRN : Hid (RightN 2 m 0) := Lib.hid (by simp [RightN])
      go_wp2_with (go_at_call 40; refine (start_right HO.out.a HRN.out).mono ?_; rintro e w5 ⟨bp, rfl, hbp5, hr5, hb5⟩; have HBP := Lib.hid hbp5; have HR5 := Lib.hid hr5; have HB5 := Lib.hid hb5; clear hbp5 hr5 hb5)
      have hAl : Alone W n a1 a2 a3 b1 b2 b3 [.int .u8 2, .int .i64 (m : Int), .int .u64 0] ws 2 m 0 bp 0 w5 := by
        have hT5 := HO.out.on HB5.out
        exact ⟨hT5.a, hT5.len, hT5.b, hT5.ne, hT5.la, hT5.lb, hT5.box, hT5.low, HR5.out, by have := HBP.out; have := HO.out.box.lt; omega⟩
      have HAl := Lib.hid hAl
      have hpos := HO.out.a.pos
      have hwl := HO.out.len
      have HMP : Hid (0 < many ws.length 2) := Lib.hid (many_pos hpos 2)
      have HML : Hid (many ws.length 2 ≤ 64) := Lib.hid (by have := many_le hpos 2; have := HO.out.a.top; omega)
      have HPOS := Lib.hid hpos
      clear hAl hpos hwl HR5 HB5 HBP o0 o1 o2
      go_loopw [14, 15] (fun u v wr => ∃ t : Nat, t ≤ many ws.length 2 ∧ u = .int .i64 t ∧ v = .bool (decide (many ws.length 2 ≤ t)) ∧ Alone W n a1 a2 a3 b1 b2 b3 [.int .u8 2, .int .i64 (m : Int), .int .u64 0] ws 2 m 0 bp t wr) (fun u _ _ => many ws.length 2 - (intOf u).toNat)
      case atStart => exact ⟨0, Nat.zero_le _, rfl, by have := HMP.out; simp; omega, HAl.out⟩
      case round =>
        obtain ⟨t, ht, rfl, rfl, hA⟩ := hrel
        have HA := Lib.hid hA
        clear hA
        by_cases hlt : t < many ws.length 2
        · have hd : decide (many ws.length 2 ≤ t) = false := by simp; omega
          have ht64 : t ≤ 63 := by have := HML.out; omega
          have HLT := Lib.hid hlt
          go_wp2_with (go_at_call 42; refine (HA.out.run HRN.out HLT.out).mono ?_; rintro e w6 ⟨did, rfl, hA6⟩; have HA6 := Lib.hid hA6; clear hA6)
          go_roundw
          case rel => exact ⟨t + 1, by omega, by go_num, rfl, HA6.out⟩
          case measure => simp [intOf]; omega
        · have hd : decide (many ws.length 2 ≤ t) = true := by simp; omega
          have HTE : Hid (t = many ws.length 2) := Lib.hid (by omega)
          have HLW : Hid (ws.length ≤ 1000000) := Lib.hid (by have := HA.out.b.top; omega)
          obtain ⟨q0, q1, q2⟩ : wr.cell? ⟨W.heap.size, 0, none⟩ = some (.int .u8 2) ∧ wr.cell? ⟨W.heap.size, 1, none⟩ = some (.int .i64 (m : Int)) ∧ wr.cell? ⟨W.heap.size, 2, none⟩ = some (.int .u64 0) := ⟨HA.out.box.cell 0, HA.out.box.cell 1, HA.out.box.cell 2⟩
          obtain ⟨x, hx⟩ : ∃ x, ws[m % ws.length]? = some x := ⟨_, get_some (Nat.mod_lt _ HA.out.b.pos)⟩
          have HX := Lib.hid hx
          have HIT : Hid (iter ws 2 m 0 t = (ws, x)) := Lib.hid (by rw [HTE.out]; exact iter_read ws m hx)
          clear hx
          go_wp2_with (first
            | (go_at_call 50; refine (cread_any HA.out.b HX.out HI.out).mono ?_; rintro e w7 ⟨rfl, hw7⟩; have HF7 := Lib.hid (HA.out.fin HTE.out HIT.out HA.out.b.drew (Part.refl _ _).drew); rw [hw7] at HF7; clear hw7)
            | (go_at_call 42; refine (step_over (Nat.le_refl _) HF7.out.p).mono ?_; rintro e w8 ⟨rfl, hb8⟩; have HF8 := Lib.hid (HF7.out.on hb8); clear hb8)
            | (go_at_call 45; refine (done_over (HF8.out.p.alloc _)).mono ?_; rintro e wx ⟨rfl, rfl⟩)
            | (go_at_call 46; refine (answer_over (HF8.out.p.alloc _)).mono ?_; rintro e wx ⟨rfl, rfl⟩)
            | (go_at_call 48; (with_reducible refine (call_any (HF8.out.a.alloc _)).mono ?_); rintro e w9 ⟨g9, rfl, _, hr9, hb9⟩; have HR9 := Lib.hid hr9; have HF9 := Lib.hid ((HF8.out.alloc _).on hb9); have HD9 := Lib.hid ((Row.new w8 45 [.int .u8 0, .int .i64 0, .int .u64 0, .int .u64 0, .bool false]).below hb9 (by simp)); clear hr9 hb9)
            | (go_at_call 48; (with_reducible refine (call_any HF9.out.b).mono ?_); rintro e w10 ⟨g10, rfl, _, hr10, hb10⟩; have HR10 := Lib.hid hr10; have HR9' := Lib.hid (HR9.out.below hb10 HR9.out.lt); have HF10 := Lib.hid (HF9.out.on hb10); have HD10 := Lib.hid (HD9.out.below hb10 HD9.out.lt); have HLE := Lib.hid (Nat.le_trans HF10.out.b.top (by omega : 64 ≤ 1000000)); clear hr10 hb10)
            | (go_at_call 47; refine (same_yes HR9'.out.lies HR10.out.lies HLE.out (by simp) (by simp)).mono ?_; rintro e w11 ⟨rfl, hb11⟩; have HF11 := Lib.hid (HF10.out.on hb11); obtain ⟨d0, d1, d2, d3, d4⟩ := (HD10.out.below hb11 HD10.out.lt).five; clear hb11))
          go_ret
          exact ⟨rfl, HF11.out.low⟩

set_option maxRecDepth 100000 in
set_option maxHeartbeats 6400000 in
theorem plain_sum {n : Nat} (h1 : 1 ≤ n) (h64 : n ≤ 64) {A : Option Addr} {cap : Nat} {xs : List Int} (W : World) (hE : Ext .u64 W A xs) (hr : xs.length * 8 ≤ 140737488351232)  :
    Calls Try.prog 12 #[.int .i64 (n : Int), .slice A xs.length cap, .agg #[.int .u8 3, .int .i64 0, .int .u64 0]] W fun e w' => e = .returned (.bool true) ∧ Below W.heap.size W w' := by
  have HE := Lib.hid hE
  have H1 := Lib.hid h1
  have H64 := Lib.hid h64
  clear hE h1 h64
  go_enter Try.func12, Try.ntmps12
  go_wp2_with (first
    | (go_at_call 38; refine (begins_any _).mono ?_; rintro e w0 ⟨rfl, hb⟩; have HB0 := Lib.hid hb; clear hb)
    | (go_at_call 36; (with_reducible refine (begun_yes w0 H1.out H64.out).mono ?_); rintro e w1 ⟨a1, a2, a3, rfl, hc, hk, hw, hS, hb⟩; have HL1 := Lib.hid hw; have HS1 := Lib.hid hS; have HB1 := Lib.hid hb; clear hc hk hw hS hb)
    | (go_at_call 36; (with_reducible refine (begun_yes w1 H1.out H64.out).mono ?_); rintro e w2 ⟨b1, b2, b3, rfl, hc, hk, hw, hS, hb⟩; have HL2 := Lib.hid hw; have HS2 := Lib.hid hS; have HB2 := Lib.hid hb; clear hc hk hw hS hb))
  have hbox : Row w0 W.heap.size 77 [.int .u8 3, .int .i64 0, .int .u64 0] := (Row.new W _ _).below HB0.out (by simp)
  have hT : Twin W n a1 a2 a3 b1 b2 b3 [.int .u8 3, .int .i64 0, .int .u64 0] (List.replicate n 0) w2 := by
    have z0 := hbox.lt
    have z1 := HL1.out
    have z2 := HL2.out
    have z3 := HB1.out.size
    have z4 := HS1.out.words.row.lt
    exact ⟨HS1.out.on HB2.out, by simp, HS2.out, by omega, by omega, by omega, (hbox.below HB1.out hbox.lt).below HB2.out (by omega), (((((Part.refl [] W).alloc _).on HB0.out).on HB1.out).on HB2.out).end_⟩
  have HT := Lib.hid hT
  clear hT hbox HB0 HB1 HB2 HS1 HS2 HL1 HL2
  go_loopw [11] (fun u wr => ∃ j : Nat, j ≤ xs.length ∧ u = .int .i64 j ∧ ∃ ws, Twin W n a1 a2 a3 b1 b2 b3 [.int .u8 3, .int .i64 0, .int .u64 0] ws wr) (fun u _ => xs.length - (intOf u).toNat)
  case atStart => exact ⟨0, Nat.zero_le _, rfl, _, HT.out⟩
  case round =>
    obtain ⟨j, hj, rfl, ws, hO⟩ := hrel
    have HO := Lib.hid hO
    clear hO HT
    by_cases hlt : j < xs.length
    · obtain ⟨x, hx⟩ : ∃ x, xs[j]? = some x := ⟨xs[j], List.getElem?_eq_getElem hlt⟩
      obtain ⟨b, o, rfl, hlt', hc⟩ := (HE.out.on HO.out.low) j x hx
      obtain ⟨z, hz⟩ : ∃ z, ws[j % ws.length]? = some z := ⟨_, List.getElem?_eq_getElem (Nat.mod_lt _ HO.out.a.pos)⟩
      have HZ := Lib.hid hz
      have hkk : j ≤ 9223372036854775807 := by omega
      have HK := Lib.hid hkk
      have hbl : b < W.heap.size := by
        obtain ⟨b', o', e, hlt2, _⟩ := HE.out j x hx
        cases e
        exact hlt2
      have HBL := Lib.hid hbl
      have HC := Lib.hid hc
      clear hx hz hkk hbl
      go_wp2_with (first
        | (go_at_call 49; (with_reducible refine (cadd_any HO.out.a HZ.out HK.out).mono ?_); rintro e w3 ⟨rfl, hS3, hP3⟩; have HS3 := Lib.hid hS3; have HP3 := Lib.hid hP3; have hc3 : w3.cell? ⟨b, o + j, none⟩ = some (.int .u64 x) := (World.cell?_of_block (w := wr) (a := ⟨b, o + j, none⟩) (HP3.out.block b hlt' (by have := HO.out.la; have := HBL.out; simp; omega))).trans HC.out; clear hS3 hP3)
        | (go_at_call 49; refine (cadd_any (HO.out.b.part HP3.out (by simpa using HO.out.b.head.ne HO.out.a.words.row (by decide)) (by simpa using HO.out.b.words.head.ne HO.out.a.words.row (by decide)) (by simpa using HO.out.ne)) HZ.out HK.out).mono ?_; rintro e w4 ⟨rfl, hS4, hP4⟩; have HS4 := Lib.hid hS4; have HP4 := Lib.hid hP4; clear hS4 hP4))
      go_roundw
      case rel => exact ⟨j + 1, by omega, by go_num, _, HO.out.both (by simp) HS3.out HP3.out HS4.out HP4.out⟩
      case measure => simp [intOf]; omega
    · obtain rfl : j = xs.length := by omega
      obtain ⟨o0, o1, o2⟩ : wr.cell? ⟨W.heap.size, 0, none⟩ = some (.int .u8 3) ∧ wr.cell? ⟨W.heap.size, 1, none⟩ = some (.int .i64 0) ∧ wr.cell? ⟨W.heap.size, 2, none⟩ = some (.int .u64 0) := ⟨HO.out.box.cell 0, HO.out.box.cell 1, HO.out.box.cell 2⟩
      have HRN : Hid (RightN 3 0 0) := Lib.hid (by simp [RightN])
      go_wp2_with (go_at_call 40; refine (start_right HO.out.a HRN.out).mono ?_; rintro e w5 ⟨bp, rfl, hbp5, hr5, hb5⟩; have HBP := Lib.hid hbp5; have HR5 := Lib.hid hr5; have HB5 := Lib.hid hb5; clear hbp5 hr5 hb5)
      have hAl : Alone W n a1 a2 a3 b1 b2 b3 [.int .u8 3, .int .i64 0, .int .u64 0] ws 3 0 0 bp 0 w5 := by
        have hT5 := HO.out.on HB5.out
        exact ⟨hT5.a, hT5.len, hT5.b, hT5.ne, hT5.la, hT5.lb, hT5.box, hT5.low, HR5.out, by have := HBP.out; have := HO.out.box.lt; omega⟩
      have HAl := Lib.hid hAl
      have hpos := HO.out.a.pos
      have hwl := HO.out.len
      have HMP : Hid (0 < many ws.length 3) := Lib.hid (many_pos hpos 3)
      have HML : Hid (many ws.length 3 ≤ 64) := Lib.hid (by have := many_le hpos 3; have := HO.out.a.top; omega)
      have HPOS := Lib.hid hpos
      clear hAl hpos hwl HR5 HB5 HBP o0 o1 o2
      go_loopw [14, 15] (fun u v wr => ∃ t : Nat, t ≤ many ws.length 3 ∧ u = .int .i64 t ∧ v = .bool (decide (many ws.length 3 ≤ t)) ∧ Alone W n a1 a2 a3 b1 b2 b3 [.int .u8 3, .int .i64 0, .int .u64 0] ws 3 0 0 bp t wr) (fun u _ _ => many ws.length 3 - (intOf u).toNat)
      case atStart => exact ⟨0, Nat.zero_le _, rfl, by have := HMP.out; simp; omega, HAl.out⟩
      case round =>
        obtain ⟨t, ht, rfl, rfl, hA⟩ := hrel
        have HA := Lib.hid hA
        clear hA
        by_cases hlt : t < many ws.length 3
        · have hd : decide (many ws.length 3 ≤ t) = false := by simp; omega
          have ht64 : t ≤ 63 := by have := HML.out; omega
          have HLT := Lib.hid hlt
          go_wp2_with (go_at_call 42; refine (HA.out.run HRN.out HLT.out).mono ?_; rintro e w6 ⟨did, rfl, hA6⟩; have HA6 := Lib.hid hA6; clear hA6)
          go_roundw
          case rel => exact ⟨t + 1, by omega, by go_num, rfl, HA6.out⟩
          case measure => simp [intOf]; omega
        · have hd : decide (many ws.length 3 ≤ t) = true := by simp; omega
          have HTE : Hid (t = many ws.length 3) := Lib.hid (by omega)
          have HLW : Hid (ws.length ≤ 1000000) := Lib.hid (by have := HA.out.b.top; omega)
          obtain ⟨q0, q1, q2⟩ : wr.cell? ⟨W.heap.size, 0, none⟩ = some (.int .u8 3) ∧ wr.cell? ⟨W.heap.size, 1, none⟩ = some (.int .i64 0) ∧ wr.cell? ⟨W.heap.size, 2, none⟩ = some (.int .u64 0) := ⟨HA.out.box.cell 0, HA.out.box.cell 1, HA.out.box.cell 2⟩
          have HIT : Hid (iter ws 3 0 0 t = (ws, sumW ws)) := Lib.hid (by rw [HTE.out, show many ws.length 3 = ws.length by simp [many], iter_sum ws _ (Nat.le_refl _), List.take_length])
          go_wp2_with (first
            | (go_at_call 51; refine (csum_any HA.out.b).mono ?_; rintro e w7 ⟨rfl, rfl⟩; have HF7 := Lib.hid (HA.out.fin HTE.out HIT.out HA.out.b (Part.refl _ _)))
            | (go_at_call 42; refine (step_over (Nat.le_refl _) HF7.out.p).mono ?_; rintro e w8 ⟨rfl, hb8⟩; have HF8 := Lib.hid (HF7.out.on hb8); clear hb8)
            | (go_at_call 45; refine (done_over (HF8.out.p.alloc _)).mono ?_; rintro e wx ⟨rfl, rfl⟩)
            | (go_at_call 46; refine (answer_over (HF8.out.p.alloc _)).mono ?_; rintro e wx ⟨rfl, rfl⟩)
            | (go_at_call 48; (with_reducible refine (call_any (HF8.out.a.alloc _)).mono ?_); rintro e w9 ⟨g9, rfl, _, hr9, hb9⟩; have HR9 := Lib.hid hr9; have HF9 := Lib.hid ((HF8.out.alloc _).on hb9); have HD9 := Lib.hid ((Row.new w8 45 [.int .u8 0, .int .i64 0, .int .u64 0, .int .u64 0, .bool false]).below hb9 (by simp)); clear hr9 hb9)
            | (go_at_call 48; (with_reducible refine (call_any HF9.out.b).mono ?_); rintro e w10 ⟨g10, rfl, _, hr10, hb10⟩; have HR10 := Lib.hid hr10; have HR9' := Lib.hid (HR9.out.below hb10 HR9.out.lt); have HF10 := Lib.hid (HF9.out.on hb10); have HD10 := Lib.hid (HD9.out.below hb10 HD9.out.lt); have HLE := Lib.hid (Nat.le_trans HF10.out.b.top (by omega : 64 ≤ 1000000)); clear hr10 hb10)
            | (go_at_call 47; refine (same_yes HR9'.out.lies HR10.out.lies HLE.out (by simp) (by simp)).mono ?_; rintro e w11 ⟨rfl, hb11⟩; have HF11 := Lib.hid (HF10.out.on hb11); obtain ⟨d0, d1, d2, d3, d4⟩ := (HD10.out.below hb11 HD10.out.lt).five; clear hb11))
          go_ret
          exact ⟨rfl, HF11.out.low⟩

set_option maxRecDepth 100000 in
set_option maxHeartbeats 6400000 in
theorem plain_take {n : Nat} (h1 : 1 ≤ n) (h64 : n ≤ 64) {A : Option Addr} {cap : Nat} {xs : List Int} (W : World) (hE : Ext .u64 W A xs) (hr : xs.length * 8 ≤ 140737488351232)  :
    Calls Try.prog 12 #[.int .i64 (n : Int), .slice A xs.length cap, .agg #[.int .u8 4, .int .i64 0, .int .u64 0]] W fun e w' => e = .returned (.bool true) ∧ Below W.heap.size W w' := by
  have HE := Lib.hid hE
  have H1 := Lib.hid h1
  have H64 := Lib.hid h64
  clear hE h1 h64
  go_enter Try.func12, Try.ntmps12
  go_wp2_with (first
    | (go_at_call 38; refine (begins_any _).mono ?_; rintro e w0 ⟨rfl, hb⟩; have HB0 := Lib.hid hb; clear hb)
    | (go_at_call 36; (with_reducible refine (begun_yes w0 H1.out H64.out).mono ?_); rintro e w1 ⟨a1, a2, a3, rfl, hc, hk, hw, hS, hb⟩; have HL1 := Lib.hid hw; have HS1 := Lib.hid hS; have HB1 := Lib.hid hb; clear hc hk hw hS hb)
    | (go_at_call 36; (with_reducible refine (begun_yes w1 H1.out H64.out).mono ?_); rintro e w2 ⟨b1, b2, b3, rfl, hc, hk, hw, hS, hb⟩; have HL2 := Lib.hid hw; have HS2 := Lib.hid hS; have HB2 := Lib.hid hb; clear hc hk hw hS hb))
  have hbox : Row w0 W.heap.size 77 [.int .u8 4, .int .i64 0, .int .u64 0] := (Row.new W _ _).below HB0.out (by simp)
  have hT : Twin W n a1 a2 a3 b1 b2 b3 [.int .u8 4, .int .i64 0, .int .u64 0] (List.replicate n 0) w2 := by
    have z0 := hbox.lt
    have z1 := HL1.out
    have z2 := HL2.out
    have z3 := HB1.out.size
    have z4 := HS1.out.words.row.lt
    exact ⟨HS1.out.on HB2.out, by simp, HS2.out, by omega, by omega, by omega, (hbox.below HB1.out hbox.lt).below HB2.out (by omega), (((((Part.refl [] W).alloc _).on HB0.out).on HB1.out).on HB2.out).end_⟩
  have HT := Lib.hid hT
  clear hT hbox HB0 HB1 HB2 HS1 HS2 HL1 HL2
  go_loopw [11] (fun u wr => ∃ j : Nat, j ≤ xs.length ∧ u = .int .i64 j ∧ ∃ ws, Twin W n a1 a2 a3 b1 b2 b3 [.int .u8 4, .int .i64 0, .int .u64 0] ws wr) (fun u _ => xs.length - (intOf u).toNat)
  case atStart => exact ⟨0, Nat.zero_le _, rfl, _, HT.out⟩
  case round =>
    obtain ⟨j, hj, rfl, ws, hO⟩ := hrel
    have HO := Lib.hid hO
    clear hO HT
    by_cases hlt : j < xs.length
    · obtain ⟨x, hx⟩ : ∃ x, xs[j]? = some x := ⟨xs[j], List.getElem?_eq_getElem hlt⟩
      obtain ⟨b, o, rfl, hlt', hc⟩ := (HE.out.on HO.out.low) j x hx
      obtain ⟨z, hz⟩ : ∃ z, ws[j % ws.length]? = some z := ⟨_, List.getElem?_eq_getElem (Nat.mod_lt _ HO.out.a.pos)⟩
      have HZ := Lib.hid hz
      have hkk : j ≤ 9223372036854775807 := by omega
      have HK := Lib.hid hkk
      have hbl : b < W.heap.size := by
        obtain ⟨b', o', e, hlt2, _⟩ := HE.out j x hx
        cases e
        exact hlt2
      have HBL := Lib.hid hbl
      have HC := Lib.hid hc
      clear hx hz hkk hbl
      go_wp2_with (first
        | (go_at_call 49; (with_reducible refine (cadd_any HO.out.a HZ.out HK.out).mono ?_); rintro e w3 ⟨rfl, hS3, hP3⟩; have HS3 := Lib.hid hS3; have HP3 := Lib.hid hP3; have hc3 : w3.cell? ⟨b, o + j, none⟩ = some (.int .u64 x) := (World.cell?_of_block (w := wr) (a := ⟨b, o + j, none⟩) (HP3.out.block b hlt' (by have := HO.out.la; have := HBL.out; simp; omega))).trans HC.out; clear hS3 hP3)
        | (go_at_call 49; refine (cadd_any (HO.out.b.part HP3.out (by simpa using HO.out.b.head.ne HO.out.a.words.row (by decide)) (by simpa using HO.out.b.words.head.ne HO.out.a.words.row (by decide)) (by simpa using HO.out.ne)) HZ.out HK.out).mono ?_; rintro e w4 ⟨rfl, hS4, hP4⟩; have HS4 := Lib.hid hS4; have HP4 := Lib.hid hP4; clear hS4 hP4))
      go_roundw
      case rel => exact ⟨j + 1, by omega, by go_num, _, HO.out.both (by simp) HS3.out HP3.out HS4.out HP4.out⟩
      case measure => simp [intOf]; omega
    · obtain rfl : j = xs.length := by omega
      obtain ⟨o0, o1, o2⟩ : wr.cell? ⟨W.heap.size, 0, none⟩ = some (.int .u8 4) ∧ wr.cell? ⟨W.heap.size, 1, none⟩ = some (.int .i64 0) ∧ wr.cell? ⟨W.heap.size, 2, none⟩ = some (.int .u64 0) := ⟨HO.out.box.cell 0, HO.out.box.cell 1, HO.out.box.cell 2⟩
      have HRN : Hid (RightN 4 0 0) := Lib.hid (by simp [RightN])
      go_wp2_with (go_at_call 40; refine (start_right HO.out.a HRN.out).mono ?_; rintro e w5 ⟨bp, rfl, hbp5, hr5, hb5⟩; have HBP := Lib.hid hbp5; have HR5 := Lib.hid hr5; have HB5 := Lib.hid hb5; clear hbp5 hr5 hb5)
      have hAl : Alone W n a1 a2 a3 b1 b2 b3 [.int .u8 4, .int .i64 0, .int .u64 0] ws 4 0 0 bp 0 w5 := by
        have hT5 := HO.out.on HB5.out
        exact ⟨hT5.a, hT5.len, hT5.b, hT5.ne, hT5.la, hT5.lb, hT5.box, hT5.low, HR5.out, by have := HBP.out; have := HO.out.box.lt; omega⟩
      have HAl := Lib.hid hAl
      have hpos := HO.out.a.pos
      have hwl := HO.out.len
      have HMP : Hid (0 < many ws.length 4) := Lib.hid (many_pos hpos 4)
      have HML : Hid (many ws.length 4 ≤ 64) := Lib.hid (by have := many_le hpos 4; have := HO.out.a.top; omega)
      have HPOS := Lib.hid hpos
      clear hAl hpos hwl HR5 HB5 HBP o0 o1 o2
      go_loopw [14, 15] (fun u v wr => ∃ t : Nat, t ≤ many ws.length 4 ∧ u = .int .i64 t ∧ v = .bool (decide (many ws.length 4 ≤ t)) ∧ Alone W n a1 a2 a3 b1 b2 b3 [.int .u8 4, .int .i64 0, .int .u64 0] ws 4 0 0 bp t wr) (fun u _ _ => many ws.length 4 - (intOf u).toNat)
      case atStart => exact ⟨0, Nat.zero_le _, rfl, by have := HMP.out; simp; omega, HAl.out⟩
      case round =>
        obtain ⟨t, ht, rfl, rfl, hA⟩ := hrel
        have HA := Lib.hid hA
        clear hA
        by_cases hlt : t < many ws.length 4
        · have hd : decide (many ws.length 4 ≤ t) = false := by simp; omega
          have ht64 : t ≤ 63 := by have := HML.out; omega
          have HLT := Lib.hid hlt
          go_wp2_with (go_at_call 42; refine (HA.out.run HRN.out HLT.out).mono ?_; rintro e w6 ⟨did, rfl, hA6⟩; have HA6 := Lib.hid hA6; clear hA6)
          go_roundw
          case rel => exact ⟨t + 1, by omega, by go_num, rfl, HA6.out⟩
          case measure => simp [intOf]; omega
        · have hd : decide (many ws.length 4 ≤ t) = true := by simp; omega
          have HTE : Hid (t = many ws.length 4) := Lib.hid (by omega)
          have HLW : Hid (ws.length ≤ 1000000) := Lib.hid (by have := HA.out.b.top; omega)
          obtain ⟨q0, q1, q2⟩ : wr.cell? ⟨W.heap.size, 0, none⟩ = some (.int .u8 4) ∧ wr.cell? ⟨W.heap.size, 1, none⟩ = some (.int .i64 0) ∧ wr.cell? ⟨W.heap.size, 2, none⟩ = some (.int .u64 0) := ⟨HA.out.box.cell 0, HA.out.box.cell 1, HA.out.box.cell 2⟩
          have HIT : Hid (iter ws 4 0 0 t = (List.replicate ws.length 0, sumW ws)) := Lib.hid (by rw [HTE.out, show many ws.length 4 = ws.length by simp [many], iter_take ws _ (Nat.le_refl _), List.take_length, zeroed_all])
          go_wp2_with (first
            | (go_at_call 52; refine (ctake_any HA.out.b).mono ?_; rintro e w7 ⟨rfl, hS7, hP7⟩; have HF7 := Lib.hid (HA.out.fin HTE.out HIT.out hS7 hP7); clear hS7 hP7)
            | (go_at_call 42; refine (step_over (Nat.le_refl _) HF7.out.p).mono ?_; rintro e w8 ⟨rfl, hb8⟩; have HF8 := Lib.hid (HF7.out.on hb8); clear hb8)
            | (go_at_call 45; refine (done_over (HF8.out.p.alloc _)).mono ?_; rintro e wx ⟨rfl, rfl⟩)
            | (go_at_call 46; refine (answer_over (HF8.out.p.alloc _)).mono ?_; rintro e wx ⟨rfl, rfl⟩)
            | (go_at_call 48; (with_reducible refine (call_any (HF8.out.a.alloc _)).mono ?_); rintro e w9 ⟨g9, rfl, _, hr9, hb9⟩; have HR9 := Lib.hid hr9; have HF9 := Lib.hid ((HF8.out.alloc _).on hb9); have HD9 := Lib.hid ((Row.new w8 45 [.int .u8 0, .int .i64 0, .int .u64 0, .int .u64 0, .bool false]).below hb9 (by simp)); clear hr9 hb9)
            | (go_at_call 48; (with_reducible refine (call_any HF9.out.b).mono ?_); rintro e w10 ⟨g10, rfl, _, hr10, hb10⟩; have HR10 := Lib.hid hr10; have HR9' := Lib.hid (HR9.out.below hb10 HR9.out.lt); have HF10 := Lib.hid (HF9.out.on hb10); have HD10 := Lib.hid (HD9.out.below hb10 HD9.out.lt); have HLE := Lib.hid (Nat.le_trans HF10.out.b.top (by omega : 64 ≤ 1000000)); clear hr10 hb10)
            | (go_at_call 47; refine (same_yes HR9'.out.lies HR10.out.lies HLE.out (by simp) (by simp)).mono ?_; rintro e w11 ⟨rfl, hb11⟩; have HF11 := Lib.hid (HF10.out.on hb11); obtain ⟨d0, d1, d2, d3, d4⟩ := (HD10.out.below hb11 HD10.out.lt).five; clear hb11))
          go_ret
          exact ⟨rfl, HF11.out.low⟩
end Go.Proofs.Ytibmdgnnkfodlaa
