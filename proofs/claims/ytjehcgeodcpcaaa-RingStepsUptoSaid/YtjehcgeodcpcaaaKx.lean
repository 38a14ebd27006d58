/- REGION 33 OF THE LAW 'RingSteps': the document's Step, with three boxes that may be made ahead of it or behind it. -/
import Derived.Test.YtjehcgeodcpcaaaKw
namespace Go.Proofs.Ytjehcgeodcpcaaa
open Go Go.RowKit

/-- a region of a function's text, by its number -/
def regionAt (n : Nat) : Code → Option Code
  | .region id ops d => if id = n then some (.region id ops d) else none
  | .seq a b => match regionAt n a with | some c => some c | none => regionAt n b
  | .cond _ a b => match regionAt n a with | some c => some c | none => regionAt n b
  | .block _ c => regionAt n c
  | .loop c => regionAt n c
  | .scope c => regionAt n c
  | _ => none
noncomputable def C33 : Code := (Try.f3.body.bind (regionAt 33)).getD .skip
set_option maxRecDepth 1000000
set_option maxHeartbeats 25600000
theorem r33 {Q : Exit → Act → World → Prop} {W wr : World} {n m q b11 gu cu c1 : Nat} {A1 : Option Addr} {wd d0 d1 d2 d3 : Int} {d4 : Bool} {rx : DN} {o2 : OpN} {ws2 : List Int} (s0 s1 s2 s3 s4 s5 s6 s7 s8 s9 s10 s12 s13 s15 s16 s17 s18 s19 s20 s21 s22 s24 s25 s26 s27 s28 s29 s30 s31 s32 s33 s34 s35 s36 s37 s38 s39 s40 s41 s42 s43 s44 s45 s46 s47 s48 s49 s50 s51 s52 s53 s54 s55 s56 s57 s58 s59 s60 s61 s62 s63 s64 s65 s66 s67 s68 s69 s70 s71 s72 s73 s74 s75 s76 s77 s78 s79 s80 s81 s82 s83 s84 s85 s86 s87 s88 s89 s90 s91 s92 s93 s94 s95 s96 s97 s98 s99 s100 s101 s102 s103 s104 s105 s106 s107 s108 s109 s110 s111 s112 s113 s114 s115 s116 s117 s118 s119 s120 s121 s122 s123 s124 s125 s126 s127 s128 s129 s130 s131 s132 s133 s134 s135 s136 s137 s138 s139 s140 s141 s142 s143 s144 s145 s146 s147 s148 s149 s150 s151 s152 s153 s154 s155 s156 s157 s158 s159 s160 s161 s162 s163 s164 s165 s166 s167 s168 s169 s170 s171 s172 s173 s174 s175 s176 s177 s178 s179 s180 s181 s182 s183 s184 s185 s186 s187 s188 s189 s190 s191 : Value)
    (hqm : q < m) (hqm2 : (q : Int) < (m : Int)) (hq10 : q * 10 ≤ 10485760)
    (SK : Hid (∀ wz : World, Below wr.heap.size wr wz → wz.cell? ⟨b11, 0, none⟩ = some (.int .i64 wd) ∧ wz.cell? ⟨b11, 1, none⟩ = some (.slice A1 n c1) ∧ wz.cell? ⟨gu, q * 10, none⟩ = some (.int .u8 rx.k) ∧ wz.cell? ⟨gu, q * 10 + 1, none⟩ = some (.int .i64 rx.t) ∧ wz.cell? ⟨gu, q * 10 + 2, none⟩ = some (.int .u64 rx.n) ∧ wz.cell? ⟨gu, q * 10 + 3, none⟩ = some (.bool rx.bg) ∧ wz.cell? ⟨gu, q * 10 + 4, none⟩ = some (.bool rx.ld) ∧ wz.cell? ⟨gu, q * 10 + 5, none⟩ = some (.int .u64 rx.saw) ∧ wz.cell? ⟨gu, q * 10 + 6, none⟩ = some (.int .i64 rx.nx) ∧ wz.cell? ⟨gu, q * 10 + 7, none⟩ = some (.bool rx.en) ∧ wz.cell? ⟨gu, q * 10 + 8, none⟩ = some (.int .u64 rx.sm) ∧ wz.cell? ⟨gu, q * 10 + 9, none⟩ = some (.int .i64 rx.why))) (HSD : Hid (∀ W0 : World, Below wr.heap.size wr W0 → Calls Try.prog 12 #[.agg #[.int .i64 wd, .slice A1 n c1], .agg #[.int .u8 rx.k, .int .i64 rx.t, .int .u64 rx.n, .bool rx.bg, .bool rx.ld, .int .u64 rx.saw, .int .i64 rx.nx, .bool rx.en, .int .u64 rx.sm, .int .i64 rx.why]] W0 fun e w1 => ∃ A2 c2 x2, e = .returned (.tuple #[.agg #[.int .i64 wd, .slice A2 n c2], .agg #[.int .u8 x2.k, .int .i64 x2.t, .int .u64 x2.n, .bool x2.bg, .bool x2.ld, .int .u64 x2.saw, .int .i64 x2.nx, .bool x2.en, .int .u64 x2.sm, .int .i64 x2.why], .agg #[.int .u8 d0, .int .i64 d1, .int .u64 d2, .int .u64 d3, .bool d4]]) ∧ w1.ownsRow W.heap.size 37 1 (.slice A2 n c2) n (u64s ws2) ∧ DocN n rx.t o2 x2 ∧ Below wr.heap.size wr w1 ∧ W0.heap.size ≤ w1.heap.size ∧ ∀ b t l, Row W0 b t l → Row w1 b t l))
    (HQ : Hid (∀ (b24 b25 b26 : Nat) (A2 : Option Addr) (c2 : Nat) (x2 : DN) (v126 v127 v128 v129 v130 v131 v132 v133 v134 v135 : Value) (wx : World), Below wr.heap.size wr wx → wx.ownsRow W.heap.size 37 1 (.slice A2 n c2) n (u64s ws2) → DocN n rx.t o2 x2 → wr.heap.size ≤ b24 → wr.heap.size ≤ b25 → wr.heap.size ≤ b26 → Row wx b24 31 [.int .i64 wd, .slice A2 n c2] → Row wx b25 45 [.int .u8 x2.k, .int .i64 x2.t, .int .u64 x2.n, .bool x2.bg, .bool x2.ld, .int .u64 x2.saw, .int .i64 x2.nx, .bool x2.en, .int .u64 x2.sm, .int .i64 x2.why] → Row wx b26 48 [.int .u8 d0, .int .i64 d1, .int .u64 d2, .int .u64 d3, .bool d4] → Q .normal ⟨#[s0, s1, s2, s3, s4, s5, s6, s7, s8, s9, s10, .pointer (some ⟨b11, 0, none⟩), s12, s13, .slice (some ⟨gu, 0, none⟩) m cu, s15, s16, s17, s18, s19, s20, s21, s22, .int .i64 (q : Int), .pointer (some ⟨b24, 0, none⟩), .pointer (some ⟨b25, 0, none⟩), .pointer (some ⟨b26, 0, none⟩), s27, s28, s29, s30, s31, s32, s33, s34, s35, s36, s37, s38, s39, s40, s41, s42, s43, s44, s45, s46, s47, s48, s49, s50, s51, s52, s53, s54, s55, s56, s57, s58, s59, s60, s61, s62, s63, s64, s65, s66, s67, s68, s69, s70, s71, s72, s73, s74, s75, s76, s77, s78, s79, s80, s81, s82, s83, s84, s85, s86, s87, s88, s89, s90, s91, s92, s93, s94, s95, s96, s97, s98, s99, s100, s101, s102, s103, s104, s105, s106, s107, s108, s109, s110, s111, s112, s113, s114, s115, s116, s117, s118, s119, s120, s121, s122, s123, s124, s125, v126, v127, v128, v129, v130, v131, v132, v133, v134, v135, s136, s137, s138, s139, s140, s141, s142, s143, s144, s145, s146, s147, s148, s149, s150, s151, s152, s153, s154, s155, s156, s157, s158, s159, s160, s161, s162, s163, s164, s165, s166, s167, s168, s169, s170, s171, s172, s173, s174, s175, s176, s177, s178, s179, s180, s181, s182, s183, s184, s185, s186, s187, s188, s189, s190, s191], []⟩ wx)) :
    Code.wp Try.prog C33 Q ⟨#[s0, s1, s2, s3, s4, s5, s6, s7, s8, s9, s10, .pointer (some ⟨b11, 0, none⟩), s12, s13, .slice (some ⟨gu, 0, none⟩) m cu, s15, s16, s17, s18, s19, s20, s21, s22, .int .i64 (q : Int), s24, s25, s26, s27, s28, s29, s30, s31, s32, s33, s34, s35, s36, s37, s38, s39, s40, s41, s42, s43, s44, s45, s46, s47, s48, s49, s50, s51, s52, s53, s54, s55, s56, s57, s58, s59, s60, s61, s62, s63, s64, s65, s66, s67, s68, s69, s70, s71, s72, s73, s74, s75, s76, s77, s78, s79, s80, s81, s82, s83, s84, s85, s86, s87, s88, s89, s90, s91, s92, s93, s94, s95, s96, s97, s98, s99, s100, s101, s102, s103, s104, s105, s106, s107, s108, s109, s110, s111, s112, s113, s114, s115, s116, s117, s118, s119, s120, s121, s122, s123, s124, s125, s126, s127, s128, s129, s130, s131, s132, s133, s134, s135, s136, s137, s138, s139, s140, s141, s142, s143, s144, s145, s146, s147, s148, s149, s150, s151, s152, s153, s154, s155, s156, s157, s158, s159, s160, s161, s162, s163, s164, s165, s166, s167, s168, s169, s170, s171, s172, s173, s174, s175, s176, s177, s178, s179, s180, s181, s182, s183, s184, s185, s186, s187, s188, s189, s190, s191], []⟩ wr := by
  conv => arg 2; whnf
  go_region_held3 (fun w' => w'.cell? ⟨b11, 0, none⟩ = some (.int .i64 wd) ∧ w'.cell? ⟨b11, 1, none⟩ = some (.slice A1 n c1) ∧ w'.cell? ⟨gu, q * 10, none⟩ = some (.int .u8 rx.k) ∧ w'.cell? ⟨gu, q * 10 + 1, none⟩ = some (.int .i64 rx.t) ∧ w'.cell? ⟨gu, q * 10 + 2, none⟩ = some (.int .u64 rx.n) ∧ w'.cell? ⟨gu, q * 10 + 3, none⟩ = some (.bool rx.bg) ∧ w'.cell? ⟨gu, q * 10 + 4, none⟩ = some (.bool rx.ld) ∧ w'.cell? ⟨gu, q * 10 + 5, none⟩ = some (.int .u64 rx.saw) ∧ w'.cell? ⟨gu, q * 10 + 6, none⟩ = some (.int .i64 rx.nx) ∧ w'.cell? ⟨gu, q * 10 + 7, none⟩ = some (.bool rx.en) ∧ w'.cell? ⟨gu, q * 10 + 8, none⟩ = some (.int .u64 rx.sm) ∧ w'.cell? ⟨gu, q * 10 + 9, none⟩ = some (.int .i64 rx.why))
    (first | (with_reducible exact ⟨kb0, kb1, u0, u1, u2, u3, u4, u5, u6, u7, u8, u9⟩) | (exact SK.out _ (by repeat (first | (with_reducible exact Below.refl _ _) | (with_reducible exact HB1.out) | (with_reducible refine Below.drew ?_) | (with_reducible refine Below.draws ?_ _) | (with_reducible refine Below.setCell ?_ (by (try simp); try omega) _) | (with_reducible refine Below.alloc ?_ (by (try simp); try omega) _)))) | go_keep)
    (first
    | (go_at_call 12; refine (HSD.out _ (by repeat (first | (with_reducible exact Below.refl _ _) | (with_reducible refine Below.drew ?_) | (with_reducible refine Below.draws ?_ _) | (with_reducible refine Below.setCell ?_ (by (try simp); try omega) _) | (with_reducible refine Below.alloc ?_ (by (try simp); try omega) _)))).mono ?_; rintro e w1 ⟨A2, c2, x2, rfl, ho1, hd1, hb1, hs1, hk⟩; have HO1 := Lib.hid ho1; have HD1 := Lib.hid hd1; have HB1 := Lib.hid hb1; have hsz1 := hb1.size; simp only [World.size_alloc, World.size_drew] at hs1; (first | (with_reducible (have hz := hk _ _ _ (row_a31 wr _ _ _ _)); (first | (obtain ⟨za0, za1⟩ := hz.two2) | (obtain ⟨zb0, zb1, zb2, zb3, zb4⟩ := hz.five6) | (obtain ⟨zc0, zc1, zc2, zc3, zc4, zc5, zc6, zc7, zc8, zc9⟩ := hz.ten)); have zf := hz.free; have zl := hz.lt; have HZz := Lib.hid hz; clear hz; with_reducible (have hy := hk _ _ _ (row_a32 wr _ _ _ _)); (first | (obtain ⟨ya0, ya1⟩ := hy.two2) | (obtain ⟨yb0, yb1, yb2, yb3, yb4⟩ := hy.five6) | (obtain ⟨yc0, yc1, yc2, yc3, yc4, yc5, yc6, yc7, yc8, yc9⟩ := hy.ten)); have yf := hy.free; have yl := hy.lt; have HZy := Lib.hid hy; clear hy; with_reducible (have hx := hk _ _ _ (row_a33 wr _ _ _ _)); (first | (obtain ⟨xa0, xa1⟩ := hx.two2) | (obtain ⟨xb0, xb1, xb2, xb3, xb4⟩ := hx.five6) | (obtain ⟨xc0, xc1, xc2, xc3, xc4, xc5, xc6, xc7, xc8, xc9⟩ := hx.ten)); have xf := hx.free; have xl := hx.lt; have HZx := Lib.hid hx; clear hx) | (with_reducible (have hz := hk _ _ _ (row_a21 wr _ _ _)); (first | (obtain ⟨za0, za1⟩ := hz.two2) | (obtain ⟨zb0, zb1, zb2, zb3, zb4⟩ := hz.five6) | (obtain ⟨zc0, zc1, zc2, zc3, zc4, zc5, zc6, zc7, zc8, zc9⟩ := hz.ten)); have zf := hz.free; have zl := hz.lt; have HZz := Lib.hid hz; clear hz; with_reducible (have hy := hk _ _ _ (row_a22 wr _ _ _)); (first | (obtain ⟨ya0, ya1⟩ := hy.two2) | (obtain ⟨yb0, yb1, yb2, yb3, yb4⟩ := hy.five6) | (obtain ⟨yc0, yc1, yc2, yc3, yc4, yc5, yc6, yc7, yc8, yc9⟩ := hy.ten)); have yf := hy.free; have yl := hy.lt; have HZy := Lib.hid hy; clear hy) | (with_reducible (have hz := hk _ _ _ (row_a11 wr _ _)); (first | (obtain ⟨za0, za1⟩ := hz.two2) | (obtain ⟨zb0, zb1, zb2, zb3, zb4⟩ := hz.five6) | (obtain ⟨zc0, zc1, zc2, zc3, zc4, zc5, zc6, zc7, zc8, zc9⟩ := hz.ten)); have zf := hz.free; have zl := hz.lt; have HZz := Lib.hid hz; clear hz) | skip); clear ho1 hd1 hb1 hk))
  · have R024 := row_new (w1) (w1.heap.size) (by (try unfold ringSet); (try unfold dnSet); (try unfold didSet); simp) 31 [.int .i64 wd, .slice A2 n c2]
    have O0 := World.ownsRow.alloc (HO1.out) (.cells #[.int .i64 wd, .slice A2 n c2] 31)
    have L0 := below_more (HB1.out) (.cells #[.int .i64 wd, .slice A2 n c2] 31)
    have R124 := Row.alloc (R024) (.cells #[.int .u8 x2.k, .int .i64 x2.t, .int .u64 x2.n, .bool x2.bg, .bool x2.ld, .int .u64 x2.saw, .int .i64 x2.nx, .bool x2.en, .int .u64 x2.sm, .int .i64 x2.why] 45)
    have R125 := row_new ((w1).alloc (.cells #[.int .i64 wd, .slice A2 n c2] 31)) (w1.heap.size + 1) (by (try unfold ringSet); (try unfold dnSet); (try unfold didSet); simp) 45 [.int .u8 x2.k, .int .i64 x2.t, .int .u64 x2.n, .bool x2.bg, .bool x2.ld, .int .u64 x2.saw, .int .i64 x2.nx, .bool x2.en, .int .u64 x2.sm, .int .i64 x2.why]
    have O1 := World.ownsRow.alloc (O0) (.cells #[.int .u8 x2.k, .int .i64 x2.t, .int .u64 x2.n, .bool x2.bg, .bool x2.ld, .int .u64 x2.saw, .int .i64 x2.nx, .bool x2.en, .int .u64 x2.sm, .int .i64 x2.why] 45)
    have L1 := below_more (L0) (.cells #[.int .u8 x2.k, .int .i64 x2.t, .int .u64 x2.n, .bool x2.bg, .bool x2.ld, .int .u64 x2.saw, .int .i64 x2.nx, .bool x2.en, .int .u64 x2.sm, .int .i64 x2.why] 45)
    have R224 := Row.alloc (R124) (.cells #[.int .u8 d0, .int .i64 d1, .int .u64 d2, .int .u64 d3, .bool d4] 48)
    have R225 := Row.alloc (R125) (.cells #[.int .u8 d0, .int .i64 d1, .int .u64 d2, .int .u64 d3, .bool d4] 48)
    have R226 := row_new (((w1).alloc (.cells #[.int .i64 wd, .slice A2 n c2] 31)).alloc (.cells #[.int .u8 x2.k, .int .i64 x2.t, .int .u64 x2.n, .bool x2.bg, .bool x2.ld, .int .u64 x2.saw, .int .i64 x2.nx, .bool x2.en, .int .u64 x2.sm, .int .i64 x2.why] 45)) (w1.heap.size + 1 + 1) (by (try unfold ringSet); (try unfold dnSet); (try unfold didSet); simp) 48 [.int .u8 d0, .int .i64 d1, .int .u64 d2, .int .u64 d3, .bool d4]
    have O2 := World.ownsRow.alloc (O1) (.cells #[.int .u8 d0, .int .i64 d1, .int .u64 d2, .int .u64 d3, .bool d4] 48)
    have L2 := below_more (L1) (.cells #[.int .u8 d0, .int .i64 d1, .int .u64 d2, .int .u64 d3, .bool d4] 48)
    exact HQ.out (w1.heap.size) (w1.heap.size + 1) (w1.heap.size + 1 + 1) A2 c2 x2 _ _ _ _ _ _ _ _ _ _ _ L2 O2 HD1.out (by omega) (by omega) (by omega) R224 R225 R226
  · have R024 := row_new (w1) (w1.heap.size) (by (try unfold ringSet); (try unfold dnSet); (try unfold didSet); simp) 31 [.int .i64 wd, .slice A2 n c2]
    have O0 := World.ownsRow.alloc (HO1.out) (.cells #[.int .i64 wd, .slice A2 n c2] 31)
    have L0 := below_more (HB1.out) (.cells #[.int .i64 wd, .slice A2 n c2] 31)
    have R124 := Row.alloc (R024) (.cells #[.int .u8 d0, .int .i64 d1, .int .u64 d2, .int .u64 d3, .bool d4] 48)
    have R126 := row_new ((w1).alloc (.cells #[.int .i64 wd, .slice A2 n c2] 31)) (w1.heap.size + 1) (by (try unfold ringSet); (try unfold dnSet); (try unfold didSet); simp) 48 [.int .u8 d0, .int .i64 d1, .int .u64 d2, .int .u64 d3, .bool d4]
    have O1 := World.ownsRow.alloc (O0) (.cells #[.int .u8 d0, .int .i64 d1, .int .u64 d2, .int .u64 d3, .bool d4] 48)
    have L1 := below_more (L0) (.cells #[.int .u8 d0, .int .i64 d1, .int .u64 d2, .int .u64 d3, .bool d4] 48)
    have R224 := Row.alloc (R124) (.cells #[.int .u8 x2.k, .int .i64 x2.t, .int .u64 x2.n, .bool x2.bg, .bool x2.ld, .int .u64 x2.saw, .int .i64 x2.nx, .bool x2.en, .int .u64 x2.sm, .int .i64 x2.why] 45)
    have R226 := Row.alloc (R126) (.cells #[.int .u8 x2.k, .int .i64 x2.t, .int .u64 x2.n, .bool x2.bg, .bool x2.ld, .int .u64 x2.saw, .int .i64 x2.nx, .bool x2.en, .int .u64 x2.sm, .int .i64 x2.why] 45)
    have R225 := row_new (((w1).alloc (.cells #[.int .i64 wd, .slice A2 n c2] 31)).alloc (.cells #[.int .u8 d0, .int .i64 d1, .int .u64 d2, .int .u64 d3, .bool d4] 48)) (w1.heap.size + 1 + 1) (by (try unfold ringSet); (try unfold dnSet); (try unfold didSet); simp) 45 [.int .u8 x2.k, .int .i64 x2.t, .int .u64 x2.n, .bool x2.bg, .bool x2.ld, .int .u64 x2.saw, .int .i64 x2.nx, .bool x2.en, .int .u64 x2.sm, .int .i64 x2.why]
    have O2 := World.ownsRow.alloc (O1) (.cells #[.int .u8 x2.k, .int .i64 x2.t, .int .u64 x2.n, .bool x2.bg, .bool x2.ld, .int .u64 x2.saw, .int .i64 x2.nx, .bool x2.en, .int .u64 x2.sm, .int .i64 x2.why] 45)
    have L2 := below_more (L1) (.cells #[.int .u8 x2.k, .int .i64 x2.t, .int .u64 x2.n, .bool x2.bg, .bool x2.ld, .int .u64 x2.saw, .int .i64 x2.nx, .bool x2.en, .int .u64 x2.sm, .int .i64 x2.why] 45)
    exact HQ.out (w1.heap.size) (w1.heap.size + 1 + 1) (w1.heap.size + 1) A2 c2 x2 _ _ _ _ _ _ _ _ _ _ _ L2 O2 HD1.out (by omega) (by omega) (by omega) R224 R225 R226
  · have R025 := row_new (w1) (w1.heap.size) (by (try unfold ringSet); (try unfold dnSet); (try unfold didSet); simp) 45 [.int .u8 x2.k, .int .i64 x2.t, .int .u64 x2.n, .bool x2.bg, .bool x2.ld, .int .u64 x2.saw, .int .i64 x2.nx, .bool x2.en, .int .u64 x2.sm, .int .i64 x2.why]
    have O0 := World.ownsRow.alloc (HO1.out) (.cells #[.int .u8 x2.k, .int .i64 x2.t, .int .u64 x2.n, .bool x2.bg, .bool x2.ld, .int .u64 x2.saw, .int .i64 x2.nx, .bool x2.en, .int .u64 x2.sm, .int .i64 x2.why] 45)
    have L0 := below_more (HB1.out) (.cells #[.int .u8 x2.k, .int .i64 x2.t, .int .u64 x2.n, .bool x2.bg, .bool x2.ld, .int .u64 x2.saw, .int .i64 x2.nx, .bool x2.en, .int .u64 x2.sm, .int .i64 x2.why] 45)
    have R125 := Row.alloc (R025) (.cells #[.int .i64 wd, .slice A2 n c2] 31)
    have R124 := row_new ((w1).alloc (.cells #[.int .u8 x2.k, .int .i64 x2.t, .int .u64 x2.n, .bool x2.bg, .bool x2.ld, .int .u64 x2.saw, .int .i64 x2.nx, .bool x2.en, .int .u64 x2.sm, .int .i64 x2.why] 45)) (w1.heap.size + 1) (by (try unfold ringSet); (try unfold dnSet); (try unfold didSet); simp) 31 [.int .i64 wd, .slice A2 n c2]
    have O1 := World.ownsRow.alloc (O0) (.cells #[.int .i64 wd, .slice A2 n c2] 31)
    have L1 := below_more (L0) (.cells #[.int .i64 wd, .slice A2 n c2] 31)
    have R225 := Row.alloc (R125) (.cells #[.int .u8 d0, .int .i64 d1, .int .u64 d2, .int .u64 d3, .bool d4] 48)
    have R224 := Row.alloc (R124) (.cells #[.int .u8 d0, .int .i64 d1, .int .u64 d2, .int .u64 d3, .bool d4] 48)
    have R226 := row_new (((w1).alloc (.cells #[.int .u8 x2.k, .int .i64 x2.t, .int .u64 x2.n, .bool x2.bg, .bool x2.ld, .int .u64 x2.saw, .int .i64 x2.nx, .bool x2.en, .int .u64 x2.sm, .int .i64 x2.why] 45)).alloc (.cells #[.int .i64 wd, .slice A2 n c2] 31)) (w1.heap.size + 1 + 1) (by (try unfold ringSet); (try unfold dnSet); (try unfold didSet); simp) 48 [.int .u8 d0, .int .i64 d1, .int .u64 d2, .int .u64 d3, .bool d4]
    have O2 := World.ownsRow.alloc (O1) (.cells #[.int .u8 d0, .int .i64 d1, .int .u64 d2, .int .u64 d3, .bool d4] 48)
    have L2 := below_more (L1) (.cells #[.int .u8 d0, .int .i64 d1, .int .u64 d2, .int .u64 d3, .bool d4] 48)
    exact HQ.out (w1.heap.size + 1) (w1.heap.size) (w1.heap.size + 1 + 1) A2 c2 x2 _ _ _ _ _ _ _ _ _ _ _ L2 O2 HD1.out (by omega) (by omega) (by omega) R224 R225 R226
  · have R025 := row_new (w1) (w1.heap.size) (by (try unfold ringSet); (try unfold dnSet); (try unfold didSet); simp) 45 [.int .u8 x2.k, .int .i64 x2.t, .int .u64 x2.n, .bool x2.bg, .bool x2.ld, .int .u64 x2.saw, .int .i64 x2.nx, .bool x2.en, .int .u64 x2.sm, .int .i64 x2.why]
    have O0 := World.ownsRow.alloc (HO1.out) (.cells #[.int .u8 x2.k, .int .i64 x2.t, .int .u64 x2.n, .bool x2.bg, .bool x2.ld, .int .u64 x2.saw, .int .i64 x2.nx, .bool x2.en, .int .u64 x2.sm, .int .i64 x2.why] 45)
    have L0 := below_more (HB1.out) (.cells #[.int .u8 x2.k, .int .i64 x2.t, .int .u64 x2.n, .bool x2.bg, .bool x2.ld, .int .u64 x2.saw, .int .i64 x2.nx, .bool x2.en, .int .u64 x2.sm, .int .i64 x2.why] 45)
    have R125 := Row.alloc (R025) (.cells #[.int .u8 d0, .int .i64 d1, .int .u64 d2, .int .u64 d3, .bool d4] 48)
    have R126 := row_new ((w1).alloc (.cells #[.int .u8 x2.k, .int .i64 x2.t, .int .u64 x2.n, .bool x2.bg, .bool x2.ld, .int .u64 x2.saw, .int .i64 x2.nx, .bool x2.en, .int .u64 x2.sm, .int .i64 x2.why] 45)) (w1.heap.size + 1) (by (try unfold ringSet); (try unfold dnSet); (try unfold didSet); simp) 48 [.int .u8 d0, .int .i64 d1, .int .u64 d2, .int .u64 d3, .bool d4]
    have O1 := World.ownsRow.alloc (O0) (.cells #[.int .u8 d0, .int .i64 d1, .int .u64 d2, .int .u64 d3, .bool d4] 48)
    have L1 := below_more (L0) (.cells #[.int .u8 d0, .int .i64 d1, .int .u64 d2, .int .u64 d3, .bool d4] 48)
    have R225 := Row.alloc (R125) (.cells #[.int .i64 wd, .slice A2 n c2] 31)
    have R226 := Row.alloc (R126) (.cells #[.int .i64 wd, .slice A2 n c2] 31)
    have R224 := row_new (((w1).alloc (.cells #[.int .u8 x2.k, .int .i64 x2.t, .int .u64 x2.n, .bool x2.bg, .bool x2.ld, .int .u64 x2.saw, .int .i64 x2.nx, .bool x2.en, .int .u64 x2.sm, .int .i64 x2.why] 45)).alloc (.cells #[.int .u8 d0, .int .i64 d1, .int .u64 d2, .int .u64 d3, .bool d4] 48)) (w1.heap.size + 1 + 1) (by (try unfold ringSet); (try unfold dnSet); (try unfold didSet); simp) 31 [.int .i64 wd, .slice A2 n c2]
    have O2 := World.ownsRow.alloc (O1) (.cells #[.int .i64 wd, .slice A2 n c2] 31)
    have L2 := below_more (L1) (.cells #[.int .i64 wd, .slice A2 n c2] 31)
    exact HQ.out (w1.heap.size + 1 + 1) (w1.heap.size) (w1.heap.size + 1) A2 c2 x2 _ _ _ _ _ _ _ _ _ _ _ L2 O2 HD1.out (by omega) (by omega) (by omega) R224 R225 R226
  · have R026 := row_new (w1) (w1.heap.size) (by (try unfold ringSet); (try unfold dnSet); (try unfold didSet); simp) 48 [.int .u8 d0, .int .i64 d1, .int .u64 d2, .int .u64 d3, .bool d4]
    have O0 := World.ownsRow.alloc (HO1.out) (.cells #[.int .u8 d0, .int .i64 d1, .int .u64 d2, .int .u64 d3, .bool d4] 48)
    have L0 := below_more (HB1.out) (.cells #[.int .u8 d0, .int .i64 d1, .int .u64 d2, .int .u64 d3, .bool d4] 48)
    have R126 := Row.alloc (R026) (.cells #[.int .i64 wd, .slice A2 n c2] 31)
    have R124 := row_new ((w1).alloc (.cells #[.int .u8 d0, .int .i64 d1, .int .u64 d2, .int .u64 d3, .bool d4] 48)) (w1.heap.size + 1) (by (try unfold ringSet); (try unfold dnSet); (try unfold didSet); simp) 31 [.int .i64 wd, .slice A2 n c2]
    have O1 := World.ownsRow.alloc (O0) (.cells #[.int .i64 wd, .slice A2 n c2] 31)
    have L1 := below_more (L0) (.cells #[.int .i64 wd, .slice A2 n c2] 31)
    have R226 := Row.alloc (R126) (.cells #[.int .u8 x2.k, .int .i64 x2.t, .int .u64 x2.n, .bool x2.bg, .bool x2.ld, .int .u64 x2.saw, .int .i64 x2.nx, .bool x2.en, .int .u64 x2.sm, .int .i64 x2.why] 45)
    have R224 := Row.alloc (R124) (.cells #[.int .u8 x2.k, .int .i64 x2.t, .int .u64 x2.n, .bool x2.bg, .bool x2.ld, .int .u64 x2.saw, .int .i64 x2.nx, .bool x2.en, .int .u64 x2.sm, .int .i64 x2.why] 45)
    have R225 := row_new (((w1).alloc (.cells #[.int .u8 d0, .int .i64 d1, .int .u64 d2, .int .u64 d3, .bool d4] 48)).alloc (.cells #[.int .i64 wd, .slice A2 n c2] 31)) (w1.heap.size + 1 + 1) (by (try unfold ringSet); (try unfold dnSet); (try unfold didSet); simp) 45 [.int .u8 x2.k, .int .i64 x2.t, .int .u64 x2.n, .bool x2.bg, .bool x2.ld, .int .u64 x2.saw, .int .i64 x2.nx, .bool x2.en, .int .u64 x2.sm, .int .i64 x2.why]
    have O2 := World.ownsRow.alloc (O1) (.cells #[.int .u8 x2.k, .int .i64 x2.t, .int .u64 x2.n, .bool x2.bg, .bool x2.ld, .int .u64 x2.saw, .int .i64 x2.nx, .bool x2.en, .int .u64 x2.sm, .int .i64 x2.why] 45)
    have L2 := below_more (L1) (.cells #[.int .u8 x2.k, .int .i64 x2.t, .int .u64 x2.n, .bool x2.bg, .bool x2.ld, .int .u64 x2.saw, .int .i64 x2.nx, .bool x2.en, .int .u64 x2.sm, .int .i64 x2.why] 45)
    exact HQ.out (w1.heap.size + 1) (w1.heap.size + 1 + 1) (w1.heap.size) A2 c2 x2 _ _ _ _ _ _ _ _ _ _ _ L2 O2 HD1.out (by omega) (by omega) (by omega) R224 R225 R226
  · have R026 := row_new (w1) (w1.heap.size) (by (try unfold ringSet); (try unfold dnSet); (try unfold didSet); simp) 48 [.int .u8 d0, .int .i64 d1, .int .u64 d2, .int .u64 d3, .bool d4]
    have O0 := World.ownsRow.alloc (HO1.out) (.cells #[.int .u8 d0, .int .i64 d1, .int .u64 d2, .int .u64 d3, .bool d4] 48)
    have L0 := below_more (HB1.out) (.cells #[.int .u8 d0, .int .i64 d1, .int .u64 d2, .int .u64 d3, .bool d4] 48)
    have R126 := Row.alloc (R026) (.cells #[.int .u8 x2.k, .int .i64 x2.t, .int .u64 x2.n, .bool x2.bg, .bool x2.ld, .int .u64 x2.saw, .int .i64 x2.nx, .bool x2.en, .int .u64 x2.sm, .int .i64 x2.why] 45)
    have R125 := row_new ((w1).alloc (.cells #[.int .u8 d0, .int .i64 d1, .int .u64 d2, .int .u64 d3, .bool d4] 48)) (w1.heap.size + 1) (by (try unfold ringSet); (try unfold dnSet); (try unfold didSet); simp) 45 [.int .u8 x2.k, .int .i64 x2.t, .int .u64 x2.n, .bool x2.bg, .bool x2.ld, .int .u64 x2.saw, .int .i64 x2.nx, .bool x2.en, .int .u64 x2.sm, .int .i64 x2.why]
    have O1 := World.ownsRow.alloc (O0) (.cells #[.int .u8 x2.k, .int .i64 x2.t, .int .u64 x2.n, .bool x2.bg, .bool x2.ld, .int .u64 x2.saw, .int .i64 x2.nx, .bool x2.en, .int .u64 x2.sm, .int .i64 x2.why] 45)
    have L1 := below_more (L0) (.cells #[.int .u8 x2.k, .int .i64 x2.t, .int .u64 x2.n, .bool x2.bg, .bool x2.ld, .int .u64 x2.saw, .int .i64 x2.nx, .bool x2.en, .int .u64 x2.sm, .int .i64 x2.why] 45)
    have R226 := Row.alloc (R126) (.cells #[.int .i64 wd, .slice A2 n c2] 31)
    have R225 := Row.alloc (R125) (.cells #[.int .i64 wd, .slice A2 n c2] 31)
    have R224 := row_new (((w1).alloc (.cells #[.int .u8 d0, .int .i64 d1, .int .u64 d2, .int .u64 d3, .bool d4] 48)).alloc (.cells #[.int .u8 x2.k, .int .i64 x2.t, .int .u64 x2.n, .bool x2.bg, .bool x2.ld, .int .u64 x2.saw, .int .i64 x2.nx, .bool x2.en, .int .u64 x2.sm, .int .i64 x2.why] 45)) (w1.heap.size + 1 + 1) (by (try unfold ringSet); (try unfold dnSet); (try unfold didSet); simp) 31 [.int .i64 wd, .slice A2 n c2]
    have O2 := World.ownsRow.alloc (O1) (.cells #[.int .i64 wd, .slice A2 n c2] 31)
    have L2 := below_more (L1) (.cells #[.int .i64 wd, .slice A2 n c2] 31)
    exact HQ.out (w1.heap.size + 1 + 1) (w1.heap.size + 1) (w1.heap.size) A2 c2 x2 _ _ _ _ _ _ _ _ _ _ _ L2 O2 HD1.out (by omega) (by omega) (by omega) R224 R225 R226
  · have q24 := own_off HO1.out HZz.out (by decide)
    have P0 := ringSet_part (w1) (wr.heap.size) (.int .i64 wd) (.slice A2 n c2)
    have R024 := ringSet_row (HZz.out) (.int .i64 wd) (.slice A2 n c2)
    have O0 := own_part (HO1.out) P0 (fun z e => not_sing (q24 z e))
    have L0 := ringSet_below (HB1.out) (show wr.heap.size ≤ wr.heap.size by omega) (.int .i64 wd) (.slice A2 n c2)
    have R124 := Row.alloc (R024) (.cells #[.int .u8 x2.k, .int .i64 x2.t, .int .u64 x2.n, .bool x2.bg, .bool x2.ld, .int .u64 x2.saw, .int .i64 x2.nx, .bool x2.en, .int .u64 x2.sm, .int .i64 x2.why] 45)
    have R125 := row_new (ringSet (w1) (wr.heap.size) (.int .i64 wd) (.slice A2 n c2)) (w1.heap.size) (by (try unfold ringSet); (try unfold dnSet); (try unfold didSet); simp) 45 [.int .u8 x2.k, .int .i64 x2.t, .int .u64 x2.n, .bool x2.bg, .bool x2.ld, .int .u64 x2.saw, .int .i64 x2.nx, .bool x2.en, .int .u64 x2.sm, .int .i64 x2.why]
    have O1 := World.ownsRow.alloc (O0) (.cells #[.int .u8 x2.k, .int .i64 x2.t, .int .u64 x2.n, .bool x2.bg, .bool x2.ld, .int .u64 x2.saw, .int .i64 x2.nx, .bool x2.en, .int .u64 x2.sm, .int .i64 x2.why] 45)
    have L1 := below_more (L0) (.cells #[.int .u8 x2.k, .int .i64 x2.t, .int .u64 x2.n, .bool x2.bg, .bool x2.ld, .int .u64 x2.saw, .int .i64 x2.nx, .bool x2.en, .int .u64 x2.sm, .int .i64 x2.why] 45)
    have R224 := Row.alloc (R124) (.cells #[.int .u8 d0, .int .i64 d1, .int .u64 d2, .int .u64 d3, .bool d4] 48)
    have R225 := Row.alloc (R125) (.cells #[.int .u8 d0, .int .i64 d1, .int .u64 d2, .int .u64 d3, .bool d4] 48)
    have R226 := row_new ((ringSet (w1) (wr.heap.size) (.int .i64 wd) (.slice A2 n c2)).alloc (.cells #[.int .u8 x2.k, .int .i64 x2.t, .int .u64 x2.n, .bool x2.bg, .bool x2.ld, .int .u64 x2.saw, .int .i64 x2.nx, .bool x2.en, .int .u64 x2.sm, .int .i64 x2.why] 45)) (w1.heap.size + 1) (by (try unfold ringSet); (try unfold dnSet); (try unfold didSet); simp) 48 [.int .u8 d0, .int .i64 d1, .int .u64 d2, .int .u64 d3, .bool d4]
    have O2 := World.ownsRow.alloc (O1) (.cells #[.int .u8 d0, .int .i64 d1, .int .u64 d2, .int .u64 d3, .bool d4] 48)
    have L2 := below_more (L1) (.cells #[.int .u8 d0, .int .i64 d1, .int .u64 d2, .int .u64 d3, .bool d4] 48)
    exact HQ.out (wr.heap.size) (w1.heap.size) (w1.heap.size + 1) A2 c2 x2 _ _ _ _ _ _ _ _ _ _ _ L2 O2 HD1.out (by omega) (by omega) (by omega) R224 R225 R226
  · have q24 := own_off HO1.out HZz.out (by decide)
    have P0 := ringSet_part (w1) (wr.heap.size) (.int .i64 wd) (.slice A2 n c2)
    have R024 := ringSet_row (HZz.out) (.int .i64 wd) (.slice A2 n c2)
    have O0 := own_part (HO1.out) P0 (fun z e => not_sing (q24 z e))
    have L0 := ringSet_below (HB1.out) (show wr.heap.size ≤ wr.heap.size by omega) (.int .i64 wd) (.slice A2 n c2)
    have R124 := Row.alloc (R024) (.cells #[.int .u8 d0, .int .i64 d1, .int .u64 d2, .int .u64 d3, .bool d4] 48)
    have R126 := row_new (ringSet (w1) (wr.heap.size) (.int .i64 wd) (.slice A2 n c2)) (w1.heap.size) (by (try unfold ringSet); (try unfold dnSet); (try unfold didSet); simp) 48 [.int .u8 d0, .int .i64 d1, .int .u64 d2, .int .u64 d3, .bool d4]
    have O1 := World.ownsRow.alloc (O0) (.cells #[.int .u8 d0, .int .i64 d1, .int .u64 d2, .int .u64 d3, .bool d4] 48)
    have L1 := below_more (L0) (.cells #[.int .u8 d0, .int .i64 d1, .int .u64 d2, .int .u64 d3, .bool d4] 48)
    have R224 := Row.alloc (R124) (.cells #[.int .u8 x2.k, .int .i64 x2.t, .int .u64 x2.n, .bool x2.bg, .bool x2.ld, .int .u64 x2.saw, .int .i64 x2.nx, .bool x2.en, .int .u64 x2.sm, .int .i64 x2.why] 45)
    have R226 := Row.alloc (R126) (.cells #[.int .u8 x2.k, .int .i64 x2.t, .int .u64 x2.n, .bool x2.bg, .bool x2.ld, .int .u64 x2.saw, .int .i64 x2.nx, .bool x2.en, .int .u64 x2.sm, .int .i64 x2.why] 45)
    have R225 := row_new ((ringSet (w1) (wr.heap.size) (.int .i64 wd) (.slice A2 n c2)).alloc (.cells #[.int .u8 d0, .int .i64 d1, .int .u64 d2, .int .u64 d3, .bool d4] 48)) (w1.heap.size + 1) (by (try unfold ringSet); (try unfold dnSet); (try unfold didSet); simp) 45 [.int .u8 x2.k, .int .i64 x2.t, .int .u64 x2.n, .bool x2.bg, .bool x2.ld, .int .u64 x2.saw, .int .i64 x2.nx, .bool x2.en, .int .u64 x2.sm, .int .i64 x2.why]
    have O2 := World.ownsRow.alloc (O1) (.cells #[.int .u8 x2.k, .int .i64 x2.t, .int .u64 x2.n, .bool x2.bg, .bool x2.ld, .int .u64 x2.saw, .int .i64 x2.nx, .bool x2.en, .int .u64 x2.sm, .int .i64 x2.why] 45)
    have L2 := below_more (L1) (.cells #[.int .u8 x2.k, .int .i64 x2.t, .int .u64 x2.n, .bool x2.bg, .bool x2.ld, .int .u64 x2.saw, .int .i64 x2.nx, .bool x2.en, .int .u64 x2.sm, .int .i64 x2.why] 45)
    exact HQ.out (wr.heap.size) (w1.heap.size + 1) (w1.heap.size) A2 c2 x2 _ _ _ _ _ _ _ _ _ _ _ L2 O2 HD1.out (by omega) (by omega) (by omega) R224 R225 R226
  · have q24 := own_off HO1.out HZz.out (by decide)
    have q25 := own_off HO1.out HZy.out (by decide)
    have P0 := ringSet_part (w1) (wr.heap.size) (.int .i64 wd) (.slice A2 n c2)
    have R024 := ringSet_row (HZz.out) (.int .i64 wd) (.slice A2 n c2)
    have R025 := Row.part (HZy.out) P0 (not_sing (by omega))
    have O0 := own_part (HO1.out) P0 (fun z e => not_sing (q24 z e))
    have L0 := ringSet_below (HB1.out) (show wr.heap.size ≤ wr.heap.size by omega) (.int .i64 wd) (.slice A2 n c2)
    have P1 := dnSet_part (ringSet (w1) (wr.heap.size) (.int .i64 wd) (.slice A2 n c2)) (wr.heap.size + 1) x2
    have R124 := Row.part (R024) P1 (not_sing (by omega))
    have R125 := dnSet_row (R025) x2
    have O1 := own_part (O0) P1 (fun z e => not_sing (q25 z e))
    have L1 := dnSet_below (L0) (show wr.heap.size ≤ wr.heap.size + 1 by omega) x2
    have R224 := Row.alloc (R124) (.cells #[.int .u8 d0, .int .i64 d1, .int .u64 d2, .int .u64 d3, .bool d4] 48)
    have R225 := Row.alloc (R125) (.cells #[.int .u8 d0, .int .i64 d1, .int .u64 d2, .int .u64 d3, .bool d4] 48)
    have R226 := row_new (dnSet (ringSet (w1) (wr.heap.size) (.int .i64 wd) (.slice A2 n c2)) (wr.heap.size + 1) x2) (w1.heap.size) (by (try unfold ringSet); (try unfold dnSet); (try unfold didSet); simp) 48 [.int .u8 d0, .int .i64 d1, .int .u64 d2, .int .u64 d3, .bool d4]
    have O2 := World.ownsRow.alloc (O1) (.cells #[.int .u8 d0, .int .i64 d1, .int .u64 d2, .int .u64 d3, .bool d4] 48)
    have L2 := below_more (L1) (.cells #[.int .u8 d0, .int .i64 d1, .int .u64 d2, .int .u64 d3, .bool d4] 48)
    exact HQ.out (wr.heap.size) (wr.heap.size + 1) (w1.heap.size) A2 c2 x2 _ _ _ _ _ _ _ _ _ _ _ L2 O2 HD1.out (by omega) (by omega) (by omega) R224 R225 R226
  · have q24 := own_off HO1.out HZz.out (by decide)
    have q25 := own_off HO1.out HZy.out (by decide)
    have q26 := own_off HO1.out HZx.out (by decide)
    have P0 := ringSet_part (w1) (wr.heap.size) (.int .i64 wd) (.slice A2 n c2)
    have R024 := ringSet_row (HZz.out) (.int .i64 wd) (.slice A2 n c2)
    have R025 := Row.part (HZy.out) P0 (not_sing (by omega))
    have R026 := Row.part (HZx.out) P0 (not_sing (by omega))
    have O0 := own_part (HO1.out) P0 (fun z e => not_sing (q24 z e))
    have L0 := ringSet_below (HB1.out) (show wr.heap.size ≤ wr.heap.size by omega) (.int .i64 wd) (.slice A2 n c2)
    have P1 := dnSet_part (ringSet (w1) (wr.heap.size) (.int .i64 wd) (.slice A2 n c2)) (wr.heap.size + 1) x2
    have R124 := Row.part (R024) P1 (not_sing (by omega))
    have R125 := dnSet_row (R025) x2
    have R126 := Row.part (R026) P1 (not_sing (by omega))
    have O1 := own_part (O0) P1 (fun z e => not_sing (q25 z e))
    have L1 := dnSet_below (L0) (show wr.heap.size ≤ wr.heap.size + 1 by omega) x2
    have P2 := didSet_part (dnSet (ringSet (w1) (wr.heap.size) (.int .i64 wd) (.slice A2 n c2)) (wr.heap.size + 1) x2) (wr.heap.size + 1 + 1) d0 d1 d2 d3 d4
    have R224 := Row.part (R124) P2 (not_sing (by omega))
    have R225 := Row.part (R125) P2 (not_sing (by omega))
    have R226 := didSet_row (R126) d0 d1 d2 d3 d4
    have O2 := own_part (O1) P2 (fun z e => not_sing (q26 z e))
    have L2 := didSet_below (L1) (show wr.heap.size ≤ wr.heap.size + 1 + 1 by omega) d0 d1 d2 d3 d4
    exact HQ.out (wr.heap.size) (wr.heap.size + 1) (wr.heap.size + 1 + 1) A2 c2 x2 _ _ _ _ _ _ _ _ _ _ _ L2 O2 HD1.out (by omega) (by omega) (by omega) R224 R225 R226
  · have q24 := own_off HO1.out HZz.out (by decide)
    have q26 := own_off HO1.out HZy.out (by decide)
    have P0 := ringSet_part (w1) (wr.heap.size) (.int .i64 wd) (.slice A2 n c2)
    have R024 := ringSet_row (HZz.out) (.int .i64 wd) (.slice A2 n c2)
    have R026 := Row.part (HZy.out) P0 (not_sing (by omega))
    have O0 := own_part (HO1.out) P0 (fun z e => not_sing (q24 z e))
    have L0 := ringSet_below (HB1.out) (show wr.heap.size ≤ wr.heap.size by omega) (.int .i64 wd) (.slice A2 n c2)
    have P1 := didSet_part (ringSet (w1) (wr.heap.size) (.int .i64 wd) (.slice A2 n c2)) (wr.heap.size + 1) d0 d1 d2 d3 d4
    have R124 := Row.part (R024) P1 (not_sing (by omega))
    have R126 := didSet_row (R026) d0 d1 d2 d3 d4
    have O1 := own_part (O0) P1 (fun z e => not_sing (q26 z e))
    have L1 := didSet_below (L0) (show wr.heap.size ≤ wr.heap.size + 1 by omega) d0 d1 d2 d3 d4
    have R224 := Row.alloc (R124) (.cells #[.int .u8 x2.k, .int .i64 x2.t, .int .u64 x2.n, .bool x2.bg, .bool x2.ld, .int .u64 x2.saw, .int .i64 x2.nx, .bool x2.en, .int .u64 x2.sm, .int .i64 x2.why] 45)
    have R226 := Row.alloc (R126) (.cells #[.int .u8 x2.k, .int .i64 x2.t, .int .u64 x2.n, .bool x2.bg, .bool x2.ld, .int .u64 x2.saw, .int .i64 x2.nx, .bool x2.en, .int .u64 x2.sm, .int .i64 x2.why] 45)
    have R225 := row_new (didSet (ringSet (w1) (wr.heap.size) (.int .i64 wd) (.slice A2 n c2)) (wr.heap.size + 1) d0 d1 d2 d3 d4) (w1.heap.size) (by (try unfold ringSet); (try unfold dnSet); (try unfold didSet); simp) 45 [.int .u8 x2.k, .int .i64 x2.t, .int .u64 x2.n, .bool x2.bg, .bool x2.ld, .int .u64 x2.saw, .int .i64 x2.nx, .bool x2.en, .int .u64 x2.sm, .int .i64 x2.why]
    have O2 := World.ownsRow.alloc (O1) (.cells #[.int .u8 x2.k, .int .i64 x2.t, .int .u64 x2.n, .bool x2.bg, .bool x2.ld, .int .u64 x2.saw, .int .i64 x2.nx, .bool x2.en, .int .u64 x2.sm, .int .i64 x2.why] 45)
    have L2 := below_more (L1) (.cells #[.int .u8 x2.k, .int .i64 x2.t, .int .u64 x2.n, .bool x2.bg, .bool x2.ld, .int .u64 x2.saw, .int .i64 x2.nx, .bool x2.en, .int .u64 x2.sm, .int .i64 x2.why] 45)
    exact HQ.out (wr.heap.size) (w1.heap.size) (wr.heap.size + 1) A2 c2 x2 _ _ _ _ _ _ _ _ _ _ _ L2 O2 HD1.out (by omega) (by omega) (by omega) R224 R225 R226
  · have q24 := own_off HO1.out HZz.out (by decide)
    have q26 := own_off HO1.out HZy.out (by decide)
    have q25 := own_off HO1.out HZx.out (by decide)
    have P0 := ringSet_part (w1) (wr.heap.size) (.int .i64 wd) (.slice A2 n c2)
    have R024 := ringSet_row (HZz.out) (.int .i64 wd) (.slice A2 n c2)
    have R026 := Row.part (HZy.out) P0 (not_sing (by omega))
    have R025 := Row.part (HZx.out) P0 (not_sing (by omega))
    have O0 := own_part (HO1.out) P0 (fun z e => not_sing (q24 z e))
    have L0 := ringSet_below (HB1.out) (show wr.heap.size ≤ wr.heap.size by omega) (.int .i64 wd) (.slice A2 n c2)
    have P1 := dnSet_part (ringSet (w1) (wr.heap.size) (.int .i64 wd) (.slice A2 n c2)) (wr.heap.size + 1 + 1) x2
    have R124 := Row.part (R024) P1 (not_sing (by omega))
    have R126 := Row.part (R026) P1 (not_sing (by omega))
    have R125 := dnSet_row (R025) x2
    have O1 := own_part (O0) P1 (fun z e => not_sing (q25 z e))
    have L1 := dnSet_below (L0) (show wr.heap.size ≤ wr.heap.size + 1 + 1 by omega) x2
    have P2 := didSet_part (dnSet (ringSet (w1) (wr.heap.size) (.int .i64 wd) (.slice A2 n c2)) (wr.heap.size + 1 + 1) x2) (wr.heap.size + 1) d0 d1 d2 d3 d4
    have R224 := Row.part (R124) P2 (not_sing (by omega))
    have R226 := didSet_row (R126) d0 d1 d2 d3 d4
    have R225 := Row.part (R125) P2 (not_sing (by omega))
    have O2 := own_part (O1) P2 (fun z e => not_sing (q26 z e))
    have L2 := didSet_below (L1) (show wr.heap.size ≤ wr.heap.size + 1 by omega) d0 d1 d2 d3 d4
    exact HQ.out (wr.heap.size) (wr.heap.size + 1 + 1) (wr.heap.size + 1) A2 c2 x2 _ _ _ _ _ _ _ _ _ _ _ L2 O2 HD1.out (by omega) (by omega) (by omega) R224 R225 R226
  · have q25 := own_off HO1.out HZz.out (by decide)
    have P0 := dnSet_part (w1) (wr.heap.size) x2
    have R025 := dnSet_row (HZz.out) x2
    have O0 := own_part (HO1.out) P0 (fun z e => not_sing (q25 z e))
    have L0 := dnSet_below (HB1.out) (show wr.heap.size ≤ wr.heap.size by omega) x2
    have R125 := Row.alloc (R025) (.cells #[.int .i64 wd, .slice A2 n c2] 31)
    have R124 := row_new (dnSet (w1) (wr.heap.size) x2) (w1.heap.size) (by (try unfold ringSet); (try unfold dnSet); (try unfold didSet); simp) 31 [.int .i64 wd, .slice A2 n c2]
    have O1 := World.ownsRow.alloc (O0) (.cells #[.int .i64 wd, .slice A2 n c2] 31)
    have L1 := below_more (L0) (.cells #[.int .i64 wd, .slice A2 n c2] 31)
    have R225 := Row.alloc (R125) (.cells #[.int .u8 d0, .int .i64 d1, .int .u64 d2, .int .u64 d3, .bool d4] 48)
    have R224 := Row.alloc (R124) (.cells #[.int .u8 d0, .int .i64 d1, .int .u64 d2, .int .u64 d3, .bool d4] 48)
    have R226 := row_new ((dnSet (w1) (wr.heap.size) x2).alloc (.cells #[.int .i64 wd, .slice A2 n c2] 31)) (w1.heap.size + 1) (by (try unfold ringSet); (try unfold dnSet); (try unfold didSet); simp) 48 [.int .u8 d0, .int .i64 d1, .int .u64 d2, .int .u64 d3, .bool d4]
    have O2 := World.ownsRow.alloc (O1) (.cells #[.int .u8 d0, .int .i64 d1, .int .u64 d2, .int .u64 d3, .bool d4] 48)
    have L2 := below_more (L1) (.cells #[.int .u8 d0, .int .i64 d1, .int .u64 d2, .int .u64 d3, .bool d4] 48)
    exact HQ.out (w1.heap.size) (wr.heap.size) (w1.heap.size + 1) A2 c2 x2 _ _ _ _ _ _ _ _ _ _ _ L2 O2 HD1.out (by omega) (by omega) (by omega) R224 R225 R226
  · have q25 := own_off HO1.out HZz.out (by decide)
    have P0 := dnSet_part (w1) (wr.heap.size) x2
    have R025 := dnSet_row (HZz.out) x2
    have O0 := own_part (HO1.out) P0 (fun z e => not_sing (q25 z e))
    have L0 := dnSet_below (HB1.out) (show wr.heap.size ≤ wr.heap.size by omega) x2
    have R125 := Row.alloc (R025) (.cells #[.int .u8 d0, .int .i64 d1, .int .u64 d2, .int .u64 d3, .bool d4] 48)
    have R126 := row_new (dnSet (w1) (wr.heap.size) x2) (w1.heap.size) (by (try unfold ringSet); (try unfold dnSet); (try unfold didSet); simp) 48 [.int .u8 d0, .int .i64 d1, .int .u64 d2, .int .u64 d3, .bool d4]
    have O1 := World.ownsRow.alloc (O0) (.cells #[.int .u8 d0, .int .i64 d1, .int .u64 d2, .int .u64 d3, .bool d4] 48)
    have L1 := below_more (L0) (.cells #[.int .u8 d0, .int .i64 d1, .int .u64 d2, .int .u64 d3, .bool d4] 48)
    have R225 := Row.alloc (R125) (.cells #[.int .i64 wd, .slice A2 n c2] 31)
    have R226 := Row.alloc (R126) (.cells #[.int .i64 wd, .slice A2 n c2] 31)
    have R224 := row_new ((dnSet (w1) (wr.heap.size) x2).alloc (.cells #[.int .u8 d0, .int .i64 d1, .int .u64 d2, .int .u64 d3, .bool d4] 48)) (w1.heap.size + 1) (by (try unfold ringSet); (try unfold dnSet); (try unfold didSet); simp) 31 [.int .i64 wd, .slice A2 n c2]
    have O2 := World.ownsRow.alloc (O1) (.cells #[.int .i64 wd, .slice A2 n c2] 31)
    have L2 := below_more (L1) (.cells #[.int .i64 wd, .slice A2 n c2] 31)
    exact HQ.out (w1.heap.size + 1) (wr.heap.size) (w1.heap.size) A2 c2 x2 _ _ _ _ _ _ _ _ _ _ _ L2 O2 HD1.out (by omega) (by omega) (by omega) R224 R225 R226
  · have q25 := own_off HO1.out HZz.out (by decide)
    have q24 := own_off HO1.out HZy.out (by decide)
    have P0 := ringSet_part (w1) (wr.heap.size + 1) (.int .i64 wd) (.slice A2 n c2)
    have R025 := Row.part (HZz.out) P0 (not_sing (by omega))
    have R024 := ringSet_row (HZy.out) (.int .i64 wd) (.slice A2 n c2)
    have O0 := own_part (HO1.out) P0 (fun z e => not_sing (q24 z e))
    have L0 := ringSet_below (HB1.out) (show wr.heap.size ≤ wr.heap.size + 1 by omega) (.int .i64 wd) (.slice A2 n c2)
    have P1 := dnSet_part (ringSet (w1) (wr.heap.size + 1) (.int .i64 wd) (.slice A2 n c2)) (wr.heap.size) x2
    have R125 := dnSet_row (R025) x2
    have R124 := Row.part (R024) P1 (not_sing (by omega))
    have O1 := own_part (O0) P1 (fun z e => not_sing (q25 z e))
    have L1 := dnSet_below (L0) (show wr.heap.size ≤ wr.heap.size by omega) x2
    have R225 := Row.alloc (R125) (.cells #[.int .u8 d0, .int .i64 d1, .int .u64 d2, .int .u64 d3, .bool d4] 48)
    have R224 := Row.alloc (R124) (.cells #[.int .u8 d0, .int .i64 d1, .int .u64 d2, .int .u64 d3, .bool d4] 48)
    have R226 := row_new (dnSet (ringSet (w1) (wr.heap.size + 1) (.int .i64 wd) (.slice A2 n c2)) (wr.heap.size) x2) (w1.heap.size) (by (try unfold ringSet); (try unfold dnSet); (try unfold didSet); simp) 48 [.int .u8 d0, .int .i64 d1, .int .u64 d2, .int .u64 d3, .bool d4]
    have O2 := World.ownsRow.alloc (O1) (.cells #[.int .u8 d0, .int .i64 d1, .int .u64 d2, .int .u64 d3, .bool d4] 48)
    have L2 := below_more (L1) (.cells #[.int .u8 d0, .int .i64 d1, .int .u64 d2, .int .u64 d3, .bool d4] 48)
    exact HQ.out (wr.heap.size + 1) (wr.heap.size) (w1.heap.size) A2 c2 x2 _ _ _ _ _ _ _ _ _ _ _ L2 O2 HD1.out (by omega) (by omega) (by omega) R224 R225 R226
  · have q25 := own_off HO1.out HZz.out (by decide)
    have q24 := own_off HO1.out HZy.out (by decide)
    have q26 := own_off HO1.out HZx.out (by decide)
    have P0 := ringSet_part (w1) (wr.heap.size + 1) (.int .i64 wd) (.slice A2 n c2)
    have R025 := Row.part (HZz.out) P0 (not_sing (by omega))
    have R024 := ringSet_row (HZy.out) (.int .i64 wd) (.slice A2 n c2)
    have R026 := Row.part (HZx.out) P0 (not_sing (by omega))
    have O0 := own_part (HO1.out) P0 (fun z e => not_sing (q24 z e))
    have L0 := ringSet_below (HB1.out) (show wr.heap.size ≤ wr.heap.size + 1 by omega) (.int .i64 wd) (.slice A2 n c2)
    have P1 := dnSet_part (ringSet (w1) (wr.heap.size + 1) (.int .i64 wd) (.slice A2 n c2)) (wr.heap.size) x2
    have R125 := dnSet_row (R025) x2
    have R124 := Row.part (R024) P1 (not_sing (by omega))
    have R126 := Row.part (R026) P1 (not_sing (by omega))
    have O1 := own_part (O0) P1 (fun z e => not_sing (q25 z e))
    have L1 := dnSet_below (L0) (show wr.heap.size ≤ wr.heap.size by omega) x2
    have P2 := didSet_part (dnSet (ringSet (w1) (wr.heap.size + 1) (.int .i64 wd) (.slice A2 n c2)) (wr.heap.size) x2) (wr.heap.size + 1 + 1) d0 d1 d2 d3 d4
    have R225 := Row.part (R125) P2 (not_sing (by omega))
    have R224 := Row.part (R124) P2 (not_sing (by omega))
    have R226 := didSet_row (R126) d0 d1 d2 d3 d4
    have O2 := own_part (O1) P2 (fun z e => not_sing (q26 z e))
    have L2 := didSet_below (L1) (show wr.heap.size ≤ wr.heap.size + 1 + 1 by omega) d0 d1 d2 d3 d4
    exact HQ.out (wr.heap.size + 1) (wr.heap.size) (wr.heap.size + 1 + 1) A2 c2 x2 _ _ _ _ _ _ _ _ _ _ _ L2 O2 HD1.out (by omega) (by omega) (by omega) R224 R225 R226
  · have q25 := own_off HO1.out HZz.out (by decide)
    have q26 := own_off HO1.out HZy.out (by decide)
    have P0 := dnSet_part (w1) (wr.heap.size) x2
    have R025 := dnSet_row (HZz.out) x2
    have R026 := Row.part (HZy.out) P0 (not_sing (by omega))
    have O0 := own_part (HO1.out) P0 (fun z e => not_sing (q25 z e))
    have L0 := dnSet_below (HB1.out) (show wr.heap.size ≤ wr.heap.size by omega) x2
    have P1 := didSet_part (dnSet (w1) (wr.heap.size) x2) (wr.heap.size + 1) d0 d1 d2 d3 d4
    have R125 := Row.part (R025) P1 (not_sing (by omega))
    have R126 := didSet_row (R026) d0 d1 d2 d3 d4
    have O1 := own_part (O0) P1 (fun z e => not_sing (q26 z e))
    have L1 := didSet_below (L0) (show wr.heap.size ≤ wr.heap.size + 1 by omega) d0 d1 d2 d3 d4
    have R225 := Row.alloc (R125) (.cells #[.int .i64 wd, .slice A2 n c2] 31)
    have R226 := Row.alloc (R126) (.cells #[.int .i64 wd, .slice A2 n c2] 31)
    have R224 := row_new (didSet (dnSet (w1) (wr.heap.size) x2) (wr.heap.size + 1) d0 d1 d2 d3 d4) (w1.heap.size) (by (try unfold ringSet); (try unfold dnSet); (try unfold didSet); simp) 31 [.int .i64 wd, .slice A2 n c2]
    have O2 := World.ownsRow.alloc (O1) (.cells #[.int .i64 wd, .slice A2 n c2] 31)
    have L2 := below_more (L1) (.cells #[.int .i64 wd, .slice A2 n c2] 31)
    exact HQ.out (w1.heap.size) (wr.heap.size) (wr.heap.size + 1) A2 c2 x2 _ _ _ _ _ _ _ _ _ _ _ L2 O2 HD1.out (by omega) (by omega) (by omega) R224 R225 R226
  · have q25 := own_off HO1.out HZz.out (by decide)
    have q26 := own_off HO1.out HZy.out (by decide)
    have q24 := own_off HO1.out HZx.out (by decide)
    have P0 := ringSet_part (w1) (wr.heap.size + 1 + 1) (.int .i64 wd) (.slice A2 n c2)
    have R025 := Row.part (HZz.out) P0 (not_sing (by omega))
    have R026 := Row.part (HZy.out) P0 (not_sing (by omega))
    have R024 := ringSet_row (HZx.out) (.int .i64 wd) (.slice A2 n c2)
    have O0 := own_part (HO1.out) P0 (fun z e => not_sing (q24 z e))
    have L0 := ringSet_below (HB1.out) (show wr.heap.size ≤ wr.heap.size + 1 + 1 by omega) (.int .i64 wd) (.slice A2 n c2)
    have P1 := dnSet_part (ringSet (w1) (wr.heap.size + 1 + 1) (.int .i64 wd) (.slice A2 n c2)) (wr.heap.size) x2
    have R125 := dnSet_row (R025) x2
    have R126 := Row.part (R026) P1 (not_sing (by omega))
    have R124 := Row.part (R024) P1 (not_sing (by omega))
    have O1 := own_part (O0) P1 (fun z e => not_sing (q25 z e))
    have L1 := dnSet_below (L0) (show wr.heap.size ≤ wr.heap.size by omega) x2
    have P2 := didSet_part (dnSet (ringSet (w1) (wr.heap.size + 1 + 1) (.int .i64 wd) (.slice A2 n c2)) (wr.heap.size) x2) (wr.heap.size + 1) d0 d1 d2 d3 d4
    have R225 := Row.part (R125) P2 (not_sing (by omega))
    have R226 := didSet_row (R126) d0 d1 d2 d3 d4
    have R224 := Row.part (R124) P2 (not_sing (by omega))
    have O2 := own_part (O1) P2 (fun z e => not_sing (q26 z e))
    have L2 := didSet_below (L1) (show wr.heap.size ≤ wr.heap.size + 1 by omega) d0 d1 d2 d3 d4
    exact HQ.out (wr.heap.size + 1 + 1) (wr.heap.size) (wr.heap.size + 1) A2 c2 x2 _ _ _ _ _ _ _ _ _ _ _ L2 O2 HD1.out (by omega) (by omega) (by omega) R224 R225 R226
  · have q26 := own_off HO1.out HZz.out (by decide)
    have P0 := didSet_part (w1) (wr.heap.size) d0 d1 d2 d3 d4
    have R026 := didSet_row (HZz.out) d0 d1 d2 d3 d4
    have O0 := own_part (HO1.out) P0 (fun z e => not_sing (q26 z e))
    have L0 := didSet_below (HB1.out) (show wr.heap.size ≤ wr.heap.size by omega) d0 d1 d2 d3 d4
    have R126 := Row.alloc (R026) (.cells #[.int .i64 wd, .slice A2 n c2] 31)
    have R124 := row_new (didSet (w1) (wr.heap.size) d0 d1 d2 d3 d4) (w1.heap.size) (by (try unfold ringSet); (try unfold dnSet); (try unfold didSet); simp) 31 [.int .i64 wd, .slice A2 n c2]
    have O1 := World.ownsRow.alloc (O0) (.cells #[.int .i64 wd, .slice A2 n c2] 31)
    have L1 := below_more (L0) (.cells #[.int .i64 wd, .slice A2 n c2] 31)
    have R226 := Row.alloc (R126) (.cells #[.int .u8 x2.k, .int .i64 x2.t, .int .u64 x2.n, .bool x2.bg, .bool x2.ld, .int .u64 x2.saw, .int .i64 x2.nx, .bool x2.en, .int .u64 x2.sm, .int .i64 x2.why] 45)
    have R224 := Row.alloc (R124) (.cells #[.int .u8 x2.k, .int .i64 x2.t, .int .u64 x2.n, .bool x2.bg, .bool x2.ld, .int .u64 x2.saw, .int .i64 x2.nx, .bool x2.en, .int .u64 x2.sm, .int .i64 x2.why] 45)
    have R225 := row_new ((didSet (w1) (wr.heap.size) d0 d1 d2 d3 d4).alloc (.cells #[.int .i64 wd, .slice A2 n c2] 31)) (w1.heap.size + 1) (by (try unfold ringSet); (try unfold dnSet); (try unfold didSet); simp) 45 [.int .u8 x2.k, .int .i64 x2.t, .int .u64 x2.n, .bool x2.bg, .bool x2.ld, .int .u64 x2.saw, .int .i64 x2.nx, .bool x2.en, .int .u64 x2.sm, .int .i64 x2.why]
    have O2 := World.ownsRow.alloc (O1) (.cells #[.int .u8 x2.k, .int .i64 x2.t, .int .u64 x2.n, .bool x2.bg, .bool x2.ld, .int .u64 x2.saw, .int .i64 x2.nx, .bool x2.en, .int .u64 x2.sm, .int .i64 x2.why] 45)
    have L2 := below_more (L1) (.cells #[.int .u8 x2.k, .int .i64 x2.t, .int .u64 x2.n, .bool x2.bg, .bool x2.ld, .int .u64 x2.saw, .int .i64 x2.nx, .bool x2.en, .int .u64 x2.sm, .int .i64 x2.why] 45)
    exact HQ.out (w1.heap.size) (w1.heap.size + 1) (wr.heap.size) A2 c2 x2 _ _ _ _ _ _ _ _ _ _ _ L2 O2 HD1.out (by omega) (by omega) (by omega) R224 R225 R226
  · have q26 := own_off HO1.out HZz.out (by decide)
    have P0 := didSet_part (w1) (wr.heap.size) d0 d1 d2 d3 d4
    have R026 := didSet_row (HZz.out) d0 d1 d2 d3 d4
    have O0 := own_part (HO1.out) P0 (fun z e => not_sing (q26 z e))
    have L0 := didSet_below (HB1.out) (show wr.heap.size ≤ wr.heap.size by omega) d0 d1 d2 d3 d4
    have R126 := Row.alloc (R026) (.cells #[.int .u8 x2.k, .int .i64 x2.t, .int .u64 x2.n, .bool x2.bg, .bool x2.ld, .int .u64 x2.saw, .int .i64 x2.nx, .bool x2.en, .int .u64 x2.sm, .int .i64 x2.why] 45)
    have R125 := row_new (didSet (w1) (wr.heap.size) d0 d1 d2 d3 d4) (w1.heap.size) (by (try unfold ringSet); (try unfold dnSet); (try unfold didSet); simp) 45 [.int .u8 x2.k, .int .i64 x2.t, .int .u64 x2.n, .bool x2.bg, .bool x2.ld, .int .u64 x2.saw, .int .i64 x2.nx, .bool x2.en, .int .u64 x2.sm, .int .i64 x2.why]
    have O1 := World.ownsRow.alloc (O0) (.cells #[.int .u8 x2.k, .int .i64 x2.t, .int .u64 x2.n, .bool x2.bg, .bool x2.ld, .int .u64 x2.saw, .int .i64 x2.nx, .bool x2.en, .int .u64 x2.sm, .int .i64 x2.why] 45)
    have L1 := below_more (L0) (.cells #[.int .u8 x2.k, .int .i64 x2.t, .int .u64 x2.n, .bool x2.bg, .bool x2.ld, .int .u64 x2.saw, .int .i64 x2.nx, .bool x2.en, .int .u64 x2.sm, .int .i64 x2.why] 45)
    have R226 := Row.alloc (R126) (.cells #[.int .i64 wd, .slice A2 n c2] 31)
    have R225 := Row.alloc (R125) (.cells #[.int .i64 wd, .slice A2 n c2] 31)
    have R224 := row_new ((didSet (w1) (wr.heap.size) d0 d1 d2 d3 d4).alloc (.cells #[.int .u8 x2.k, .int .i64 x2.t, .int .u64 x2.n, .bool x2.bg, .bool x2.ld, .int .u64 x2.saw, .int .i64 x2.nx, .bool x2.en, .int .u64 x2.sm, .int .i64 x2.why] 45)) (w1.heap.size + 1) (by (try unfold ringSet); (try unfold dnSet); (try unfold didSet); simp) 31 [.int .i64 wd, .slice A2 n c2]
    have O2 := World.ownsRow.alloc (O1) (.cells #[.int .i64 wd, .slice A2 n c2] 31)
    have L2 := below_more (L1) (.cells #[.int .i64 wd, .slice A2 n c2] 31)
    exact HQ.out (w1.heap.size + 1) (w1.heap.size) (wr.heap.size) A2 c2 x2 _ _ _ _ _ _ _ _ _ _ _ L2 O2 HD1.out (by omega) (by omega) (by omega) R224 R225 R226
  · have q26 := own_off HO1.out HZz.out (by decide)
    have q24 := own_off HO1.out HZy.out (by decide)
    have P0 := ringSet_part (w1) (wr.heap.size + 1) (.int .i64 wd) (.slice A2 n c2)
    have R026 := Row.part (HZz.out) P0 (not_sing (by omega))
    have R024 := ringSet_row (HZy.out) (.int .i64 wd) (.slice A2 n c2)
    have O0 := own_part (HO1.out) P0 (fun z e => not_sing (q24 z e))
    have L0 := ringSet_below (HB1.out) (show wr.heap.size ≤ wr.heap.size + 1 by omega) (.int .i64 wd) (.slice A2 n c2)
    have P1 := didSet_part (ringSet (w1) (wr.heap.size + 1) (.int .i64 wd) (.slice A2 n c2)) (wr.heap.size) d0 d1 d2 d3 d4
    have R126 := didSet_row (R026) d0 d1 d2 d3 d4
    have R124 := Row.part (R024) P1 (not_sing (by omega))
    have O1 := own_part (O0) P1 (fun z e => not_sing (q26 z e))
    have L1 := didSet_below (L0) (show wr.heap.size ≤ wr.heap.size by omega) d0 d1 d2 d3 d4
    have R226 := Row.alloc (R126) (.cells #[.int .u8 x2.k, .int .i64 x2.t, .int .u64 x2.n, .bool x2.bg, .bool x2.ld, .int .u64 x2.saw, .int .i64 x2.nx, .bool x2.en, .int .u64 x2.sm, .int .i64 x2.why] 45)
    have R224 := Row.alloc (R124) (.cells #[.int .u8 x2.k, .int .i64 x2.t, .int .u64 x2.n, .bool x2.bg, .bool x2.ld, .int .u64 x2.saw, .int .i64 x2.nx, .bool x2.en, .int .u64 x2.sm, .int .i64 x2.why] 45)
    have R225 := row_new (didSet (ringSet (w1) (wr.heap.size + 1) (.int .i64 wd) (.slice A2 n c2)) (wr.heap.size) d0 d1 d2 d3 d4) (w1.heap.size) (by (try unfold ringSet); (try unfold dnSet); (try unfold didSet); simp) 45 [.int .u8 x2.k, .int .i64 x2.t, .int .u64 x2.n, .bool x2.bg, .bool x2.ld, .int .u64 x2.saw, .int .i64 x2.nx, .bool x2.en, .int .u64 x2.sm, .int .i64 x2.why]
    have O2 := World.ownsRow.alloc (O1) (.cells #[.int .u8 x2.k, .int .i64 x2.t, .int .u64 x2.n, .bool x2.bg, .bool x2.ld, .int .u64 x2.saw, .int .i64 x2.nx, .bool x2.en, .int .u64 x2.sm, .int .i64 x2.why] 45)
    have L2 := below_more (L1) (.cells #[.int .u8 x2.k, .int .i64 x2.t, .int .u64 x2.n, .bool x2.bg, .bool x2.ld, .int .u64 x2.saw, .int .i64 x2.nx, .bool x2.en, .int .u64 x2.sm, .int .i64 x2.why] 45)
    exact HQ.out (wr.heap.size + 1) (w1.heap.size) (wr.heap.size) A2 c2 x2 _ _ _ _ _ _ _ _ _ _ _ L2 O2 HD1.out (by omega) (by omega) (by omega) R224 R225 R226
  · have q26 := own_off HO1.out HZz.out (by decide)
    have q24 := own_off HO1.out HZy.out (by decide)
    have q25 := own_off HO1.out HZx.out (by decide)
    have P0 := ringSet_part (w1) (wr.heap.size + 1) (.int .i64 wd) (.slice A2 n c2)
    have R026 := Row.part (HZz.out) P0 (not_sing (by omega))
    have R024 := ringSet_row (HZy.out) (.int .i64 wd) (.slice A2 n c2)
    have R025 := Row.part (HZx.out) P0 (not_sing (by omega))
    have O0 := own_part (HO1.out) P0 (fun z e => not_sing (q24 z e))
    have L0 := ringSet_below (HB1.out) (show wr.heap.size ≤ wr.heap.size + 1 by omega) (.int .i64 wd) (.slice A2 n c2)
    have P1 := dnSet_part (ringSet (w1) (wr.heap.size + 1) (.int .i64 wd) (.slice A2 n c2)) (wr.heap.size + 1 + 1) x2
    have R126 := Row.part (R026) P1 (not_sing (by omega))
    have R124 := Row.part (R024) P1 (not_sing (by omega))
    have R125 := dnSet_row (R025) x2
    have O1 := own_part (O0) P1 (fun z e => not_sing (q25 z e))
    have L1 := dnSet_below (L0) (show wr.heap.size ≤ wr.heap.size + 1 + 1 by omega) x2
    have P2 := didSet_part (dnSet (ringSet (w1) (wr.heap.size + 1) (.int .i64 wd) (.slice A2 n c2)) (wr.heap.size + 1 + 1) x2) (wr.heap.size) d0 d1 d2 d3 d4
    have R226 := didSet_row (R126) d0 d1 d2 d3 d4
    have R224 := Row.part (R124) P2 (not_sing (by omega))
    have R225 := Row.part (R125) P2 (not_sing (by omega))
    have O2 := own_part (O1) P2 (fun z e => not_sing (q26 z e))
    have L2 := didSet_below (L1) (show wr.heap.size ≤ wr.heap.size by omega) d0 d1 d2 d3 d4
    exact HQ.out (wr.heap.size + 1) (wr.heap.size + 1 + 1) (wr.heap.size) A2 c2 x2 _ _ _ _ _ _ _ _ _ _ _ L2 O2 HD1.out (by omega) (by omega) (by omega) R224 R225 R226
  · have q26 := own_off HO1.out HZz.out (by decide)
    have q25 := own_off HO1.out HZy.out (by decide)
    have P0 := dnSet_part (w1) (wr.heap.size + 1) x2
    have R026 := Row.part (HZz.out) P0 (not_sing (by omega))
    have R025 := dnSet_row (HZy.out) x2
    have O0 := own_part (HO1.out) P0 (fun z e => not_sing (q25 z e))
    have L0 := dnSet_below (HB1.out) (show wr.heap.size ≤ wr.heap.size + 1 by omega) x2
    have P1 := didSet_part (dnSet (w1) (wr.heap.size + 1) x2) (wr.heap.size) d0 d1 d2 d3 d4
    have R126 := didSet_row (R026) d0 d1 d2 d3 d4
    have R125 := Row.part (R025) P1 (not_sing (by omega))
    have O1 := own_part (O0) P1 (fun z e => not_sing (q26 z e))
    have L1 := didSet_below (L0) (show wr.heap.size ≤ wr.heap.size by omega) d0 d1 d2 d3 d4
    have R226 := Row.alloc (R126) (.cells #[.int .i64 wd, .slice A2 n c2] 31)
    have R225 := Row.alloc (R125) (.cells #[.int .i64 wd, .slice A2 n c2] 31)
    have R224 := row_new (didSet (dnSet (w1) (wr.heap.size + 1) x2) (wr.heap.size) d0 d1 d2 d3 d4) (w1.heap.size) (by (try unfold ringSet); (try unfold dnSet); (try unfold didSet); simp) 31 [.int .i64 wd, .slice A2 n c2]
    have O2 := World.ownsRow.alloc (O1) (.cells #[.int .i64 wd, .slice A2 n c2] 31)
    have L2 := below_more (L1) (.cells #[.int .i64 wd, .slice A2 n c2] 31)
    exact HQ.out (w1.heap.size) (wr.heap.size + 1) (wr.heap.size) A2 c2 x2 _ _ _ _ _ _ _ _ _ _ _ L2 O2 HD1.out (by omega) (by omega) (by omega) R224 R225 R226
  · have q26 := own_off HO1.out HZz.out (by decide)
    have q25 := own_off HO1.out HZy.out (by decide)
    have q24 := own_off HO1.out HZx.out (by decide)
    have P0 := ringSet_part (w1) (wr.heap.size + 1 + 1) (.int .i64 wd) (.slice A2 n c2)
    have R026 := Row.part (HZz.out) P0 (not_sing (by omega))
    have R025 := Row.part (HZy.out) P0 (not_sing (by omega))
    have R024 := ringSet_row (HZx.out) (.int .i64 wd) (.slice A2 n c2)
    have O0 := own_part (HO1.out) P0 (fun z e => not_sing (q24 z e))
    have L0 := ringSet_below (HB1.out) (show wr.heap.size ≤ wr.heap.size + 1 + 1 by omega) (.int .i64 wd) (.slice A2 n c2)
    have P1 := dnSet_part (ringSet (w1) (wr.heap.size + 1 + 1) (.int .i64 wd) (.slice A2 n c2)) (wr.heap.size + 1) x2
    have R126 := Row.part (R026) P1 (not_sing (by omega))
    have R125 := dnSet_row (R025) x2
    have R124 := Row.part (R024) P1 (not_sing (by omega))
    have O1 := own_part (O0) P1 (fun z e => not_sing (q25 z e))
    have L1 := dnSet_below (L0) (show wr.heap.size ≤ wr.heap.size + 1 by omega) x2
    have P2 := didSet_part (dnSet (ringSet (w1) (wr.heap.size + 1 + 1) (.int .i64 wd) (.slice A2 n c2)) (wr.heap.size + 1) x2) (wr.heap.size) d0 d1 d2 d3 d4
    have R226 := didSet_row (R126) d0 d1 d2 d3 d4
    have R225 := Row.part (R125) P2 (not_sing (by omega))
    have R224 := Row.part (R124) P2 (not_sing (by omega))
    have O2 := own_part (O1) P2 (fun z e => not_sing (q26 z e))
    have L2 := didSet_below (L1) (show wr.heap.size ≤ wr.heap.size by omega) d0 d1 d2 d3 d4
    exact HQ.out (wr.heap.size + 1 + 1) (wr.heap.size + 1) (wr.heap.size) A2 c2 x2 _ _ _ _ _ _ _ _ _ _ _ L2 O2 HD1.out (by omega) (by omega) (by omega) R224 R225 R226
end Go.Proofs.Ytjehcgeodcpcaaa
