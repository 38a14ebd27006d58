/- REGION 31 OF THE LAW 'SemSteps': the document's Step, with three boxes that may be made ahead of it or behind it. -/
import Derived.Test.YtamigipljgijlaaOg
namespace Go.Proofs.Ytamigipljgijlaa
open Go Go.RowKit

/-- a region of a function's text, by its number -/
def regionAt (n : Nat) : Code → Option Code
  | .region id ops d => if id = n then some (.region id ops d) else none
  | .seq a b => match regionAt n a with | some c => some c | none => regionAt n b
  | .cond _ a b => match regionAt n a with | some c => some c | none => regionAt n b
  | .block _ c => regionAt n c
  | .loop c => regionAt n c
  | .scope c => regionAt n c
  | _ => none
noncomputable def C31 : Code := (Try.f3.body.bind (regionAt 31)).getD .skip
set_option maxRecDepth 1000000
set_option maxHeartbeats 25600000
theorem r31 {Q : Exit → Act → World → Prop} {wr : World} {m q bx gu cu : Nat} {pl dd gg dd2 gg2 kk d0 d1 d2 d3 : Int} {d4 : Bool} {rx : DocS} {o2 : OpS} (s0 s1 s2 s3 s4 s5 s6 s7 s8 s10 s12 s13 s14 s15 s16 s18 s19 s20 s21 s22 s23 s24 s25 s26 s27 s28 s29 s30 s31 s32 s33 s34 s35 s36 s37 s38 s39 s40 s41 s42 s43 s44 s45 s46 s47 s48 s49 s50 s51 s52 s53 s54 s55 s56 s57 s58 s59 s60 s61 s62 s63 s64 s65 s66 s67 s68 s69 s70 s71 s72 s73 s74 s75 s76 s77 s78 s79 s80 s81 s82 s83 s84 s85 s86 s87 s88 s89 s90 s91 s92 s93 s94 s95 s96 s97 s98 s99 s100 s101 s102 s103 s104 s105 s106 s107 s108 s109 s110 s111 s112 s113 s114 s115 s116 s117 s118 s119 s120 s121 s122 s123 s124 s125 s126 s127 s128 s129 s130 s131 s132 s133 s134 s135 s136 s137 s138 s139 s140 s141 s142 s143 s144 s145 s146 s147 s148 s149 s150 s151 s152 s153 s154 s155 s156 s157 s158 s159 s160 s161 s162 s163 s164 s165 s166 s167 s168 s169 s170 s171 s172 s173 s174 s175 s176 s177 s178 s179 s180 s181 s182 s183 : Value)
    (hqm : q < m) (hqm2 : (q : Int) < (m : Int)) (hq7 : q * 7 ≤ 7340032)
    (SK : Hid (∀ wz : World, Below wr.heap.size wr wz → wz.cell? ⟨bx, 0, none⟩ = some (.int .u64 pl) ∧ wz.cell? ⟨bx, 1, none⟩ = some (.int .u64 dd) ∧ wz.cell? ⟨bx, 2, none⟩ = some (.int .u64 gg) ∧ wz.cell? ⟨gu, q * 7, none⟩ = some (.int .u8 kk) ∧ wz.cell? ⟨gu, q * 7 + 1, none⟩ = some (.int .i64 rx.at_) ∧ wz.cell? ⟨gu, q * 7 + 2, none⟩ = some (.int .u64 rx.fi) ∧ wz.cell? ⟨gu, q * 7 + 3, none⟩ = some (.int .u64 rx.la) ∧ wz.cell? ⟨gu, q * 7 + 4, none⟩ = some (.bool rx.en) ∧ wz.cell? ⟨gu, q * 7 + 5, none⟩ = some (.int .u64 rx.su) ∧ wz.cell? ⟨gu, q * 7 + 6, none⟩ = some (.int .i64 rx.wy))) (HSD : Hid (∀ W0 : World, Below wr.heap.size wr W0 → Calls Try.prog 11 #[.agg #[.int .u64 pl, .int .u64 dd, .int .u64 gg], .agg #[.int .u8 kk, .int .i64 rx.at_, .int .u64 rx.fi, .int .u64 rx.la, .bool rx.en, .int .u64 rx.su, .int .i64 rx.wy]] W0 fun e w1 => ∃ x2, e = .returned (.tuple #[.agg #[.int .u64 pl, .int .u64 dd2, .int .u64 gg2], .agg #[.int .u8 kk, .int .i64 x2.at_, .int .u64 x2.fi, .int .u64 x2.la, .bool x2.en, .int .u64 x2.su, .int .i64 x2.wy], .agg #[.int .u8 d0, .int .i64 d1, .int .u64 d2, .int .u64 d3, .bool d4]]) ∧ InvS o2 x2 ∧ Below wr.heap.size wr w1 ∧ W0.heap.size ≤ w1.heap.size ∧ ∀ b t l, Row W0 b t l → Row w1 b t l))
    (HQ : Hid (∀ (b20 b21 b22 : Nat) (x2 : DocS) (v118 v119 v120 v121 v122 v123 v124 v125 v126 v127 : Value) (wx : World), Below wr.heap.size wr wx → InvS o2 x2 → wr.heap.size ≤ b20 → wr.heap.size ≤ b21 → wr.heap.size ≤ b22 → Row wx b20 31 [.int .u64 pl, .int .u64 dd2, .int .u64 gg2] → Row wx b21 40 [.int .u8 kk, .int .i64 x2.at_, .int .u64 x2.fi, .int .u64 x2.la, .bool x2.en, .int .u64 x2.su, .int .i64 x2.wy] → Row wx b22 45 [.int .u8 d0, .int .i64 d1, .int .u64 d2, .int .u64 d3, .bool d4] → Q .normal ⟨#[s0, s1, s2, s3, s4, s5, s6, s7, s8, .pointer (some ⟨bx, 0, none⟩), s10, .slice (some ⟨gu, 0, none⟩) m cu, s12, s13, s14, s15, s16, .int .i64 (q : Int), s18, s19, .pointer (some ⟨b20, 0, none⟩), .pointer (some ⟨b21, 0, none⟩), .pointer (some ⟨b22, 0, none⟩), s23, s24, s25, s26, s27, s28, s29, s30, s31, s32, s33, s34, s35, s36, s37, s38, s39, s40, s41, s42, s43, s44, s45, s46, s47, s48, s49, s50, s51, s52, s53, s54, s55, s56, s57, s58, s59, s60, s61, s62, s63, s64, s65, s66, s67, s68, s69, s70, s71, s72, s73, s74, s75, s76, s77, s78, s79, s80, s81, s82, s83, s84, s85, s86, s87, s88, s89, s90, s91, s92, s93, s94, s95, s96, s97, s98, s99, s100, s101, s102, s103, s104, s105, s106, s107, s108, s109, s110, s111, s112, s113, s114, s115, s116, s117, v118, v119, v120, v121, v122, v123, v124, v125, v126, v127, s128, s129, s130, s131, s132, s133, s134, s135, s136, s137, s138, s139, s140, s141, s142, s143, s144, s145, s146, s147, s148, s149, s150, s151, s152, s153, s154, s155, s156, s157, s158, s159, s160, s161, s162, s163, s164, s165, s166, s167, s168, s169, s170, s171, s172, s173, s174, s175, s176, s177, s178, s179, s180, s181, s182, s183], []⟩ wx)) :
    Code.wp Try.prog C31 Q ⟨#[s0, s1, s2, s3, s4, s5, s6, s7, s8, .pointer (some ⟨bx, 0, none⟩), s10, .slice (some ⟨gu, 0, none⟩) m cu, s12, s13, s14, s15, s16, .int .i64 (q : Int), s18, s19, s20, s21, s22, s23, s24, s25, s26, s27, s28, s29, s30, s31, s32, s33, s34, s35, s36, s37, s38, s39, s40, s41, s42, s43, s44, s45, s46, s47, s48, s49, s50, s51, s52, s53, s54, s55, s56, s57, s58, s59, s60, s61, s62, s63, s64, s65, s66, s67, s68, s69, s70, s71, s72, s73, s74, s75, s76, s77, s78, s79, s80, s81, s82, s83, s84, s85, s86, s87, s88, s89, s90, s91, s92, s93, s94, s95, s96, s97, s98, s99, s100, s101, s102, s103, s104, s105, s106, s107, s108, s109, s110, s111, s112, s113, s114, s115, s116, s117, s118, s119, s120, s121, s122, s123, s124, s125, s126, s127, s128, s129, s130, s131, s132, s133, s134, s135, s136, s137, s138, s139, s140, s141, s142, s143, s144, s145, s146, s147, s148, s149, s150, s151, s152, s153, s154, s155, s156, s157, s158, s159, s160, s161, s162, s163, s164, s165, s166, s167, s168, s169, s170, s171, s172, s173, s174, s175, s176, s177, s178, s179, s180, s181, s182, s183], []⟩ wr := by
  conv => arg 2; whnf
  go_region_held3 (fun w' => w'.cell? ⟨bx, 0, none⟩ = some (.int .u64 pl) ∧ w'.cell? ⟨bx, 1, none⟩ = some (.int .u64 dd) ∧ w'.cell? ⟨bx, 2, none⟩ = some (.int .u64 gg) ∧ w'.cell? ⟨gu, q * 7, none⟩ = some (.int .u8 kk) ∧ w'.cell? ⟨gu, q * 7 + 1, none⟩ = some (.int .i64 rx.at_) ∧ w'.cell? ⟨gu, q * 7 + 2, none⟩ = some (.int .u64 rx.fi) ∧ w'.cell? ⟨gu, q * 7 + 3, none⟩ = some (.int .u64 rx.la) ∧ w'.cell? ⟨gu, q * 7 + 4, none⟩ = some (.bool rx.en) ∧ w'.cell? ⟨gu, q * 7 + 5, none⟩ = some (.int .u64 rx.su) ∧ w'.cell? ⟨gu, q * 7 + 6, none⟩ = some (.int .i64 rx.wy))
    (first | (with_reducible exact ⟨kb0, kb1, kb2, u0, u1, u2, u3, u4, u5, u6⟩) | (exact SK.out _ (by repeat (first | (with_reducible exact Below.refl _ _) | (with_reducible exact HB1.out) | (with_reducible refine Below.drew ?_) | (with_reducible refine Below.draws ?_ _) | (with_reducible refine Below.setCell ?_ (by (try simp); try omega) _) | (with_reducible refine Below.alloc ?_ (by (try simp); try omega) _)))) | go_keep)
    (first
    | (go_at_call 11; refine (HSD.out _ (by repeat (first | (with_reducible exact Below.refl _ _) | (with_reducible refine Below.drew ?_) | (with_reducible refine Below.draws ?_ _) | (with_reducible refine Below.setCell ?_ (by (try simp); try omega) _) | (with_reducible refine Below.alloc ?_ (by (try simp); try omega) _)))).mono ?_; rintro e w1 ⟨x2, rfl, hd1, hb1, hs1, hk⟩; have HD1 := Lib.hid hd1; have HB1 := Lib.hid hb1; have hsz1 := hb1.size; simp only [World.size_alloc, World.size_drew] at hs1; (first | (with_reducible (have hz := hk _ _ _ (row_a31 wr _ _ _ _)); (first | (obtain ⟨za0, za1, za2⟩ := hz.three3) | (obtain ⟨zb0, zb1, zb2, zb3, zb4⟩ := hz.five6) | (obtain ⟨zc0, zc1, zc2, zc3, zc4, zc5, zc6⟩ := hz.seven)); have zf := hz.free; have zl := hz.lt; have HZz := Lib.hid hz; clear hz; with_reducible (have hy := hk _ _ _ (row_a32 wr _ _ _ _)); (first | (obtain ⟨ya0, ya1, ya2⟩ := hy.three3) | (obtain ⟨yb0, yb1, yb2, yb3, yb4⟩ := hy.five6) | (obtain ⟨yc0, yc1, yc2, yc3, yc4, yc5, yc6⟩ := hy.seven)); have yf := hy.free; have yl := hy.lt; have HZy := Lib.hid hy; clear hy; with_reducible (have hx := hk _ _ _ (row_a33 wr _ _ _ _)); (first | (obtain ⟨xa0, xa1, xa2⟩ := hx.three3) | (obtain ⟨xb0, xb1, xb2, xb3, xb4⟩ := hx.five6) | (obtain ⟨xc0, xc1, xc2, xc3, xc4, xc5, xc6⟩ := hx.seven)); have xf := hx.free; have xl := hx.lt; have HZx := Lib.hid hx; clear hx) | (with_reducible (have hz := hk _ _ _ (row_a21 wr _ _ _)); (first | (obtain ⟨za0, za1, za2⟩ := hz.three3) | (obtain ⟨zb0, zb1, zb2, zb3, zb4⟩ := hz.five6) | (obtain ⟨zc0, zc1, zc2, zc3, zc4, zc5, zc6⟩ := hz.seven)); have zf := hz.free; have zl := hz.lt; have HZz := Lib.hid hz; clear hz; with_reducible (have hy := hk _ _ _ (row_a22 wr _ _ _)); (first | (obtain ⟨ya0, ya1, ya2⟩ := hy.three3) | (obtain ⟨yb0, yb1, yb2, yb3, yb4⟩ := hy.five6) | (obtain ⟨yc0, yc1, yc2, yc3, yc4, yc5, yc6⟩ := hy.seven)); have yf := hy.free; have yl := hy.lt; have HZy := Lib.hid hy; clear hy) | (with_reducible (have hz := hk _ _ _ (row_a11 wr _ _)); (first | (obtain ⟨za0, za1, za2⟩ := hz.three3) | (obtain ⟨zb0, zb1, zb2, zb3, zb4⟩ := hz.five6) | (obtain ⟨zc0, zc1, zc2, zc3, zc4, zc5, zc6⟩ := hz.seven)); have zf := hz.free; have zl := hz.lt; have HZz := Lib.hid hz; clear hz) | skip); clear hd1 hb1 hk))
  · have R020 := row_new (w1) (w1.heap.size) (by (try unfold semSet); (try unfold dnSetS); (try unfold didSetS); simp) 31 [.int .u64 pl, .int .u64 dd2, .int .u64 gg2]
    have L0 := below_more (HB1.out) (.cells #[.int .u64 pl, .int .u64 dd2, .int .u64 gg2] 31)
    have R120 := Row.alloc (R020) (.cells #[.int .u8 kk, .int .i64 x2.at_, .int .u64 x2.fi, .int .u64 x2.la, .bool x2.en, .int .u64 x2.su, .int .i64 x2.wy] 40)
    have R121 := row_new ((w1).alloc (.cells #[.int .u64 pl, .int .u64 dd2, .int .u64 gg2] 31)) (w1.heap.size + 1) (by (try unfold semSet); (try unfold dnSetS); (try unfold didSetS); simp) 40 [.int .u8 kk, .int .i64 x2.at_, .int .u64 x2.fi, .int .u64 x2.la, .bool x2.en, .int .u64 x2.su, .int .i64 x2.wy]
    have L1 := below_more (L0) (.cells #[.int .u8 kk, .int .i64 x2.at_, .int .u64 x2.fi, .int .u64 x2.la, .bool x2.en, .int .u64 x2.su, .int .i64 x2.wy] 40)
    have R220 := Row.alloc (R120) (.cells #[.int .u8 d0, .int .i64 d1, .int .u64 d2, .int .u64 d3, .bool d4] 45)
    have R221 := Row.alloc (R121) (.cells #[.int .u8 d0, .int .i64 d1, .int .u64 d2, .int .u64 d3, .bool d4] 45)
    have R222 := row_new (((w1).alloc (.cells #[.int .u64 pl, .int .u64 dd2, .int .u64 gg2] 31)).alloc (.cells #[.int .u8 kk, .int .i64 x2.at_, .int .u64 x2.fi, .int .u64 x2.la, .bool x2.en, .int .u64 x2.su, .int .i64 x2.wy] 40)) (w1.heap.size + 1 + 1) (by (try unfold semSet); (try unfold dnSetS); (try unfold didSetS); simp) 45 [.int .u8 d0, .int .i64 d1, .int .u64 d2, .int .u64 d3, .bool d4]
    have L2 := below_more (L1) (.cells #[.int .u8 d0, .int .i64 d1, .int .u64 d2, .int .u64 d3, .bool d4] 45)
    exact HQ.out (w1.heap.size) (w1.heap.size + 1) (w1.heap.size + 1 + 1) x2 _ _ _ _ _ _ _ _ _ _ _ L2 HD1.out (by omega) (by omega) (by omega) R220 R221 R222
  · have R020 := row_new (w1) (w1.heap.size) (by (try unfold semSet); (try unfold dnSetS); (try unfold didSetS); simp) 31 [.int .u64 pl, .int .u64 dd2, .int .u64 gg2]
    have L0 := below_more (HB1.out) (.cells #[.int .u64 pl, .int .u64 dd2, .int .u64 gg2] 31)
    have R120 := Row.alloc (R020) (.cells #[.int .u8 d0, .int .i64 d1, .int .u64 d2, .int .u64 d3, .bool d4] 45)
    have R122 := row_new ((w1).alloc (.cells #[.int .u64 pl, .int .u64 dd2, .int .u64 gg2] 31)) (w1.heap.size + 1) (by (try unfold semSet); (try unfold dnSetS); (try unfold didSetS); simp) 45 [.int .u8 d0, .int .i64 d1, .int .u64 d2, .int .u64 d3, .bool d4]
    have L1 := below_more (L0) (.cells #[.int .u8 d0, .int .i64 d1, .int .u64 d2, .int .u64 d3, .bool d4] 45)
    have R220 := Row.alloc (R120) (.cells #[.int .u8 kk, .int .i64 x2.at_, .int .u64 x2.fi, .int .u64 x2.la, .bool x2.en, .int .u64 x2.su, .int .i64 x2.wy] 40)
    have R222 := Row.alloc (R122) (.cells #[.int .u8 kk, .int .i64 x2.at_, .int .u64 x2.fi, .int .u64 x2.la, .bool x2.en, .int .u64 x2.su, .int .i64 x2.wy] 40)
    have R221 := row_new (((w1).alloc (.cells #[.int .u64 pl, .int .u64 dd2, .int .u64 gg2] 31)).alloc (.cells #[.int .u8 d0, .int .i64 d1, .int .u64 d2, .int .u64 d3, .bool d4] 45)) (w1.heap.size + 1 + 1) (by (try unfold semSet); (try unfold dnSetS); (try unfold didSetS); simp) 40 [.int .u8 kk, .int .i64 x2.at_, .int .u64 x2.fi, .int .u64 x2.la, .bool x2.en, .int .u64 x2.su, .int .i64 x2.wy]
    have L2 := below_more (L1) (.cells #[.int .u8 kk, .int .i64 x2.at_, .int .u64 x2.fi, .int .u64 x2.la, .bool x2.en, .int .u64 x2.su, .int .i64 x2.wy] 40)
    exact HQ.out (w1.heap.size) (w1.heap.size + 1 + 1) (w1.heap.size + 1) x2 _ _ _ _ _ _ _ _ _ _ _ L2 HD1.out (by omega) (by omega) (by omega) R220 R221 R222
  · have R021 := row_new (w1) (w1.heap.size) (by (try unfold semSet); (try unfold dnSetS); (try unfold didSetS); simp) 40 [.int .u8 kk, .int .i64 x2.at_, .int .u64 x2.fi, .int .u64 x2.la, .bool x2.en, .int .u64 x2.su, .int .i64 x2.wy]
    have L0 := below_more (HB1.out) (.cells #[.int .u8 kk, .int .i64 x2.at_, .int .u64 x2.fi, .int .u64 x2.la, .bool x2.en, .int .u64 x2.su, .int .i64 x2.wy] 40)
    have R121 := Row.alloc (R021) (.cells #[.int .u64 pl, .int .u64 dd2, .int .u64 gg2] 31)
    have R120 := row_new ((w1).alloc (.cells #[.int .u8 kk, .int .i64 x2.at_, .int .u64 x2.fi, .int .u64 x2.la, .bool x2.en, .int .u64 x2.su, .int .i64 x2.wy] 40)) (w1.heap.size + 1) (by (try unfold semSet); (try unfold dnSetS); (try unfold didSetS); simp) 31 [.int .u64 pl, .int .u64 dd2, .int .u64 gg2]
    have L1 := below_more (L0) (.cells #[.int .u64 pl, .int .u64 dd2, .int .u64 gg2] 31)
    have R221 := Row.alloc (R121) (.cells #[.int .u8 d0, .int .i64 d1, .int .u64 d2, .int .u64 d3, .bool d4] 45)
    have R220 := Row.alloc (R120) (.cells #[.int .u8 d0, .int .i64 d1, .int .u64 d2, .int .u64 d3, .bool d4] 45)
    have R222 := row_new (((w1).alloc (.cells #[.int .u8 kk, .int .i64 x2.at_, .int .u64 x2.fi, .int .u64 x2.la, .bool x2.en, .int .u64 x2.su, .int .i64 x2.wy] 40)).alloc (.cells #[.int .u64 pl, .int .u64 dd2, .int .u64 gg2] 31)) (w1.heap.size + 1 + 1) (by (try unfold semSet); (try unfold dnSetS); (try unfold didSetS); simp) 45 [.int .u8 d0, .int .i64 d1, .int .u64 d2, .int .u64 d3, .bool d4]
    have L2 := below_more (L1) (.cells #[.int .u8 d0, .int .i64 d1, .int .u64 d2, .int .u64 d3, .bool d4] 45)
    exact HQ.out (w1.heap.size + 1) (w1.heap.size) (w1.heap.size + 1 + 1) x2 _ _ _ _ _ _ _ _ _ _ _ L2 HD1.out (by omega) (by omega) (by omega) R220 R221 R222
  · have R021 := row_new (w1) (w1.heap.size) (by (try unfold semSet); (try unfold dnSetS); (try unfold didSetS); simp) 40 [.int .u8 kk, .int .i64 x2.at_, .int .u64 x2.fi, .int .u64 x2.la, .bool x2.en, .int .u64 x2.su, .int .i64 x2.wy]
    have L0 := below_more (HB1.out) (.cells #[.int .u8 kk, .int .i64 x2.at_, .int .u64 x2.fi, .int .u64 x2.la, .bool x2.en, .int .u64 x2.su, .int .i64 x2.wy] 40)
    have R121 := Row.alloc (R021) (.cells #[.int .u8 d0, .int .i64 d1, .int .u64 d2, .int .u64 d3, .bool d4] 45)
    have R122 := row_new ((w1).alloc (.cells #[.int .u8 kk, .int .i64 x2.at_, .int .u64 x2.fi, .int .u64 x2.la, .bool x2.en, .int .u64 x2.su, .int .i64 x2.wy] 40)) (w1.heap.size + 1) (by (try unfold semSet); (try unfold dnSetS); (try unfold didSetS); simp) 45 [.int .u8 d0, .int .i64 d1, .int .u64 d2, .int .u64 d3, .bool d4]
    have L1 := below_more (L0) (.cells #[.int .u8 d0, .int .i64 d1, .int .u64 d2, .int .u64 d3, .bool d4] 45)
    have R221 := Row.alloc (R121) (.cells #[.int .u64 pl, .int .u64 dd2, .int .u64 gg2] 31)
    have R222 := Row.alloc (R122) (.cells #[.int .u64 pl, .int .u64 dd2, .int .u64 gg2] 31)
    have R220 := row_new (((w1).alloc (.cells #[.int .u8 kk, .int .i64 x2.at_, .int .u64 x2.fi, .int .u64 x2.la, .bool x2.en, .int .u64 x2.su, .int .i64 x2.wy] 40)).alloc (.cells #[.int .u8 d0, .int .i64 d1, .int .u64 d2, .int .u64 d3, .bool d4] 45)) (w1.heap.size + 1 + 1) (by (try unfold semSet); (try unfold dnSetS); (try unfold didSetS); simp) 31 [.int .u64 pl, .int .u64 dd2, .int .u64 gg2]
    have L2 := below_more (L1) (.cells #[.int .u64 pl, .int .u64 dd2, .int .u64 gg2] 31)
    exact HQ.out (w1.heap.size + 1 + 1) (w1.heap.size) (w1.heap.size + 1) x2 _ _ _ _ _ _ _ _ _ _ _ L2 HD1.out (by omega) (by omega) (by omega) R220 R221 R222
  · have R022 := row_new (w1) (w1.heap.size) (by (try unfold semSet); (try unfold dnSetS); (try unfold didSetS); simp) 45 [.int .u8 d0, .int .i64 d1, .int .u64 d2, .int .u64 d3, .bool d4]
    have L0 := below_more (HB1.out) (.cells #[.int .u8 d0, .int .i64 d1, .int .u64 d2, .int .u64 d3, .bool d4] 45)
    have R122 := Row.alloc (R022) (.cells #[.int .u64 pl, .int .u64 dd2, .int .u64 gg2] 31)
    have R120 := row_new ((w1).alloc (.cells #[.int .u8 d0, .int .i64 d1, .int .u64 d2, .int .u64 d3, .bool d4] 45)) (w1.heap.size + 1) (by (try unfold semSet); (try unfold dnSetS); (try unfold didSetS); simp) 31 [.int .u64 pl, .int .u64 dd2, .int .u64 gg2]
    have L1 := below_more (L0) (.cells #[.int .u64 pl, .int .u64 dd2, .int .u64 gg2] 31)
    have R222 := Row.alloc (R122) (.cells #[.int .u8 kk, .int .i64 x2.at_, .int .u64 x2.fi, .int .u64 x2.la, .bool x2.en, .int .u64 x2.su, .int .i64 x2.wy] 40)
    have R220 := Row.alloc (R120) (.cells #[.int .u8 kk, .int .i64 x2.at_, .int .u64 x2.fi, .int .u64 x2.la, .bool x2.en, .int .u64 x2.su, .int .i64 x2.wy] 40)
    have R221 := row_new (((w1).alloc (.cells #[.int .u8 d0, .int .i64 d1, .int .u64 d2, .int .u64 d3, .bool d4] 45)).alloc (.cells #[.int .u64 pl, .int .u64 dd2, .int .u64 gg2] 31)) (w1.heap.size + 1 + 1) (by (try unfold semSet); (try unfold dnSetS); (try unfold didSetS); simp) 40 [.int .u8 kk, .int .i64 x2.at_, .int .u64 x2.fi, .int .u64 x2.la, .bool x2.en, .int .u64 x2.su, .int .i64 x2.wy]
    have L2 := below_more (L1) (.cells #[.int .u8 kk, .int .i64 x2.at_, .int .u64 x2.fi, .int .u64 x2.la, .bool x2.en, .int .u64 x2.su, .int .i64 x2.wy] 40)
    exact HQ.out (w1.heap.size + 1) (w1.heap.size + 1 + 1) (w1.heap.size) x2 _ _ _ _ _ _ _ _ _ _ _ L2 HD1.out (by omega) (by omega) (by omega) R220 R221 R222
  · have R022 := row_new (w1) (w1.heap.size) (by (try unfold semSet); (try unfold dnSetS); (try unfold didSetS); simp) 45 [.int .u8 d0, .int .i64 d1, .int .u64 d2, .int .u64 d3, .bool d4]
    have L0 := below_more (HB1.out) (.cells #[.int .u8 d0, .int .i64 d1, .int .u64 d2, .int .u64 d3, .bool d4] 45)
    have R122 := Row.alloc (R022) (.cells #[.int .u8 kk, .int .i64 x2.at_, .int .u64 x2.fi, .int .u64 x2.la, .bool x2.en, .int .u64 x2.su, .int .i64 x2.wy] 40)
    have R121 := row_new ((w1).alloc (.cells #[.int .u8 d0, .int .i64 d1, .int .u64 d2, .int .u64 d3, .bool d4] 45)) (w1.heap.size + 1) (by (try unfold semSet); (try unfold dnSetS); (try unfold didSetS); simp) 40 [.int .u8 kk, .int .i64 x2.at_, .int .u64 x2.fi, .int .u64 x2.la, .bool x2.en, .int .u64 x2.su, .int .i64 x2.wy]
    have L1 := below_more (L0) (.cells #[.int .u8 kk, .int .i64 x2.at_, .int .u64 x2.fi, .int .u64 x2.la, .bool x2.en, .int .u64 x2.su, .int .i64 x2.wy] 40)
    have R222 := Row.alloc (R122) (.cells #[.int .u64 pl, .int .u64 dd2, .int .u64 gg2] 31)
    have R221 := Row.alloc (R121) (.cells #[.int .u64 pl, .int .u64 dd2, .int .u64 gg2] 31)
    have R220 := row_new (((w1).alloc (.cells #[.int .u8 d0, .int .i64 d1, .int .u64 d2, .int .u64 d3, .bool d4] 45)).alloc (.cells #[.int .u8 kk, .int .i64 x2.at_, .int .u64 x2.fi, .int .u64 x2.la, .bool x2.en, .int .u64 x2.su, .int .i64 x2.wy] 40)) (w1.heap.size + 1 + 1) (by (try unfold semSet); (try unfold dnSetS); (try unfold didSetS); simp) 31 [.int .u64 pl, .int .u64 dd2, .int .u64 gg2]
    have L2 := below_more (L1) (.cells #[.int .u64 pl, .int .u64 dd2, .int .u64 gg2] 31)
    exact HQ.out (w1.heap.size + 1 + 1) (w1.heap.size + 1) (w1.heap.size) x2 _ _ _ _ _ _ _ _ _ _ _ L2 HD1.out (by omega) (by omega) (by omega) R220 R221 R222
  · have P0 := semSet_part (w1) (wr.heap.size) (.int .u64 pl) (.int .u64 dd2) (.int .u64 gg2)
    have R020 := semSet_row (HZz.out) (.int .u64 pl) (.int .u64 dd2) (.int .u64 gg2)
    have L0 := semSet_below (HB1.out) (show wr.heap.size ≤ wr.heap.size by omega) (.int .u64 pl) (.int .u64 dd2) (.int .u64 gg2)
    have R120 := Row.alloc (R020) (.cells #[.int .u8 kk, .int .i64 x2.at_, .int .u64 x2.fi, .int .u64 x2.la, .bool x2.en, .int .u64 x2.su, .int .i64 x2.wy] 40)
    have R121 := row_new (semSet (w1) (wr.heap.size) (.int .u64 pl) (.int .u64 dd2) (.int .u64 gg2)) (w1.heap.size) (by (try unfold semSet); (try unfold dnSetS); (try unfold didSetS); simp) 40 [.int .u8 kk, .int .i64 x2.at_, .int .u64 x2.fi, .int .u64 x2.la, .bool x2.en, .int .u64 x2.su, .int .i64 x2.wy]
    have L1 := below_more (L0) (.cells #[.int .u8 kk, .int .i64 x2.at_, .int .u64 x2.fi, .int .u64 x2.la, .bool x2.en, .int .u64 x2.su, .int .i64 x2.wy] 40)
    have R220 := Row.alloc (R120) (.cells #[.int .u8 d0, .int .i64 d1, .int .u64 d2, .int .u64 d3, .bool d4] 45)
    have R221 := Row.alloc (R121) (.cells #[.int .u8 d0, .int .i64 d1, .int .u64 d2, .int .u64 d3, .bool d4] 45)
    have R222 := row_new ((semSet (w1) (wr.heap.size) (.int .u64 pl) (.int .u64 dd2) (.int .u64 gg2)).alloc (.cells #[.int .u8 kk, .int .i64 x2.at_, .int .u64 x2.fi, .int .u64 x2.la, .bool x2.en, .int .u64 x2.su, .int .i64 x2.wy] 40)) (w1.heap.size + 1) (by (try unfold semSet); (try unfold dnSetS); (try unfold didSetS); simp) 45 [.int .u8 d0, .int .i64 d1, .int .u64 d2, .int .u64 d3, .bool d4]
    have L2 := below_more (L1) (.cells #[.int .u8 d0, .int .i64 d1, .int .u64 d2, .int .u64 d3, .bool d4] 45)
    exact HQ.out (wr.heap.size) (w1.heap.size) (w1.heap.size + 1) x2 _ _ _ _ _ _ _ _ _ _ _ L2 HD1.out (by omega) (by omega) (by omega) R220 R221 R222
  · have P0 := semSet_part (w1) (wr.heap.size) (.int .u64 pl) (.int .u64 dd2) (.int .u64 gg2)
    have R020 := semSet_row (HZz.out) (.int .u64 pl) (.int .u64 dd2) (.int .u64 gg2)
    have L0 := semSet_below (HB1.out) (show wr.heap.size ≤ wr.heap.size by omega) (.int .u64 pl) (.int .u64 dd2) (.int .u64 gg2)
    have R120 := Row.alloc (R020) (.cells #[.int .u8 d0, .int .i64 d1, .int .u64 d2, .int .u64 d3, .bool d4] 45)
    have R122 := row_new (semSet (w1) (wr.heap.size) (.int .u64 pl) (.int .u64 dd2) (.int .u64 gg2)) (w1.heap.size) (by (try unfold semSet); (try unfold dnSetS); (try unfold didSetS); simp) 45 [.int .u8 d0, .int .i64 d1, .int .u64 d2, .int .u64 d3, .bool d4]
    have L1 := below_more (L0) (.cells #[.int .u8 d0, .int .i64 d1, .int .u64 d2, .int .u64 d3, .bool d4] 45)
    have R220 := Row.alloc (R120) (.cells #[.int .u8 kk, .int .i64 x2.at_, .int .u64 x2.fi, .int .u64 x2.la, .bool x2.en, .int .u64 x2.su, .int .i64 x2.wy] 40)
    have R222 := Row.alloc (R122) (.cells #[.int .u8 kk, .int .i64 x2.at_, .int .u64 x2.fi, .int .u64 x2.la, .bool x2.en, .int .u64 x2.su, .int .i64 x2.wy] 40)
    have R221 := row_new ((semSet (w1) (wr.heap.size) (.int .u64 pl) (.int .u64 dd2) (.int .u64 gg2)).alloc (.cells #[.int .u8 d0, .int .i64 d1, .int .u64 d2, .int .u64 d3, .bool d4] 45)) (w1.heap.size + 1) (by (try unfold semSet); (try unfold dnSetS); (try unfold didSetS); simp) 40 [.int .u8 kk, .int .i64 x2.at_, .int .u64 x2.fi, .int .u64 x2.la, .bool x2.en, .int .u64 x2.su, .int .i64 x2.wy]
    have L2 := below_more (L1) (.cells #[.int .u8 kk, .int .i64 x2.at_, .int .u64 x2.fi, .int .u64 x2.la, .bool x2.en, .int .u64 x2.su, .int .i64 x2.wy] 40)
    exact HQ.out (wr.heap.size) (w1.heap.size + 1) (w1.heap.size) x2 _ _ _ _ _ _ _ _ _ _ _ L2 HD1.out (by omega) (by omega) (by omega) R220 R221 R222
  · have P0 := semSet_part (w1) (wr.heap.size) (.int .u64 pl) (.int .u64 dd2) (.int .u64 gg2)
    have R020 := semSet_row (HZz.out) (.int .u64 pl) (.int .u64 dd2) (.int .u64 gg2)
    have R021 := Row.part (HZy.out) P0 (not_sing (by omega))
    have L0 := semSet_below (HB1.out) (show wr.heap.size ≤ wr.heap.size by omega) (.int .u64 pl) (.int .u64 dd2) (.int .u64 gg2)
    have P1 := dnSetS_part (semSet (w1) (wr.heap.size) (.int .u64 pl) (.int .u64 dd2) (.int .u64 gg2)) (wr.heap.size + 1) kk x2
    have R120 := Row.part (R020) P1 (not_sing (by omega))
    have R121 := dnSetS_row (R021) kk x2
    have L1 := dnSetS_below (L0) (show wr.heap.size ≤ wr.heap.size + 1 by omega) kk x2
    have R220 := Row.alloc (R120) (.cells #[.int .u8 d0, .int .i64 d1, .int .u64 d2, .int .u64 d3, .bool d4] 45)
    have R221 := Row.alloc (R121) (.cells #[.int .u8 d0, .int .i64 d1, .int .u64 d2, .int .u64 d3, .bool d4] 45)
    have R222 := row_new (dnSetS (semSet (w1) (wr.heap.size) (.int .u64 pl) (.int .u64 dd2) (.int .u64 gg2)) (wr.heap.size + 1) kk x2) (w1.heap.size) (by (try unfold semSet); (try unfold dnSetS); (try unfold didSetS); simp) 45 [.int .u8 d0, .int .i64 d1, .int .u64 d2, .int .u64 d3, .bool d4]
    have L2 := below_more (L1) (.cells #[.int .u8 d0, .int .i64 d1, .int .u64 d2, .int .u64 d3, .bool d4] 45)
    exact HQ.out (wr.heap.size) (wr.heap.size + 1) (w1.heap.size) x2 _ _ _ _ _ _ _ _ _ _ _ L2 HD1.out (by omega) (by omega) (by omega) R220 R221 R222
  · have P0 := semSet_part (w1) (wr.heap.size) (.int .u64 pl) (.int .u64 dd2) (.int .u64 gg2)
    have R020 := semSet_row (HZz.out) (.int .u64 pl) (.int .u64 dd2) (.int .u64 gg2)
    have R021 := Row.part (HZy.out) P0 (not_sing (by omega))
    have R022 := Row.part (HZx.out) P0 (not_sing (by omega))
    have L0 := semSet_below (HB1.out) (show wr.heap.size ≤ wr.heap.size by omega) (.int .u64 pl) (.int .u64 dd2) (.int .u64 gg2)
    have P1 := dnSetS_part (semSet (w1) (wr.heap.size) (.int .u64 pl) (.int .u64 dd2) (.int .u64 gg2)) (wr.heap.size + 1) kk x2
    have R120 := Row.part (R020) P1 (not_sing (by omega))
    have R121 := dnSetS_row (R021) kk x2
    have R122 := Row.part (R022) P1 (not_sing (by omega))
    have L1 := dnSetS_below (L0) (show wr.heap.size ≤ wr.heap.size + 1 by omega) kk x2
    have P2 := didSetS_part (dnSetS (semSet (w1) (wr.heap.size) (.int .u64 pl) (.int .u64 dd2) (.int .u64 gg2)) (wr.heap.size + 1) kk x2) (wr.heap.size + 1 + 1) d0 d1 d2 d3 d4
    have R220 := Row.part (R120) P2 (not_sing (by omega))
    have R221 := Row.part (R121) P2 (not_sing (by omega))
    have R222 := didSetS_row (R122) d0 d1 d2 d3 d4
    have L2 := didSetS_below (L1) (show wr.heap.size ≤ wr.heap.size + 1 + 1 by omega) d0 d1 d2 d3 d4
    exact HQ.out (wr.heap.size) (wr.heap.size + 1) (wr.heap.size + 1 + 1) x2 _ _ _ _ _ _ _ _ _ _ _ L2 HD1.out (by omega) (by omega) (by omega) R220 R221 R222
  · have P0 := semSet_part (w1) (wr.heap.size) (.int .u64 pl) (.int .u64 dd2) (.int .u64 gg2)
    have R020 := semSet_row (HZz.out) (.int .u64 pl) (.int .u64 dd2) (.int .u64 gg2)
    have R022 := Row.part (HZy.out) P0 (not_sing (by omega))
    have L0 := semSet_below (HB1.out) (show wr.heap.size ≤ wr.heap.size by omega) (.int .u64 pl) (.int .u64 dd2) (.int .u64 gg2)
    have P1 := didSetS_part (semSet (w1) (wr.heap.size) (.int .u64 pl) (.int .u64 dd2) (.int .u64 gg2)) (wr.heap.size + 1) d0 d1 d2 d3 d4
    have R120 := Row.part (R020) P1 (not_sing (by omega))
    have R122 := didSetS_row (R022) d0 d1 d2 d3 d4
    have L1 := didSetS_below (L0) (show wr.heap.size ≤ wr.heap.size + 1 by omega) d0 d1 d2 d3 d4
    have R220 := Row.alloc (R120) (.cells #[.int .u8 kk, .int .i64 x2.at_, .int .u64 x2.fi, .int .u64 x2.la, .bool x2.en, .int .u64 x2.su, .int .i64 x2.wy] 40)
    have R222 := Row.alloc (R122) (.cells #[.int .u8 kk, .int .i64 x2.at_, .int .u64 x2.fi, .int .u64 x2.la, .bool x2.en, .int .u64 x2.su, .int .i64 x2.wy] 40)
    have R221 := row_new (didSetS (semSet (w1) (wr.heap.size) (.int .u64 pl) (.int .u64 dd2) (.int .u64 gg2)) (wr.heap.size + 1) d0 d1 d2 d3 d4) (w1.heap.size) (by (try unfold semSet); (try unfold dnSetS); (try unfold didSetS); simp) 40 [.int .u8 kk, .int .i64 x2.at_, .int .u64 x2.fi, .int .u64 x2.la, .bool x2.en, .int .u64 x2.su, .int .i64 x2.wy]
    have L2 := below_more (L1) (.cells #[.int .u8 kk, .int .i64 x2.at_, .int .u64 x2.fi, .int .u64 x2.la, .bool x2.en, .int .u64 x2.su, .int .i64 x2.wy] 40)
    exact HQ.out (wr.heap.size) (w1.heap.size) (wr.heap.size + 1) x2 _ _ _ _ _ _ _ _ _ _ _ L2 HD1.out (by omega) (by omega) (by omega) R220 R221 R222
  · have P0 := semSet_part (w1) (wr.heap.size) (.int .u64 pl) (.int .u64 dd2) (.int .u64 gg2)
    have R020 := semSet_row (HZz.out) (.int .u64 pl) (.int .u64 dd2) (.int .u64 gg2)
    have R022 := Row.part (HZy.out) P0 (not_sing (by omega))
    have R021 := Row.part (HZx.out) P0 (not_sing (by omega))
    have L0 := semSet_below (HB1.out) (show wr.heap.size ≤ wr.heap.size by omega) (.int .u64 pl) (.int .u64 dd2) (.int .u64 gg2)
    have P1 := dnSetS_part (semSet (w1) (wr.heap.size) (.int .u64 pl) (.int .u64 dd2) (.int .u64 gg2)) (wr.heap.size + 1 + 1) kk x2
    have R120 := Row.part (R020) P1 (not_sing (by omega))
    have R122 := Row.part (R022) P1 (not_sing (by omega))
    have R121 := dnSetS_row (R021) kk x2
    have L1 := dnSetS_below (L0) (show wr.heap.size ≤ wr.heap.size + 1 + 1 by omega) kk x2
    have P2 := didSetS_part (dnSetS (semSet (w1) (wr.heap.size) (.int .u64 pl) (.int .u64 dd2) (.int .u64 gg2)) (wr.heap.size + 1 + 1) kk x2) (wr.heap.size + 1) d0 d1 d2 d3 d4
    have R220 := Row.part (R120) P2 (not_sing (by omega))
    have R222 := didSetS_row (R122) d0 d1 d2 d3 d4
    have R221 := Row.part (R121) P2 (not_sing (by omega))
    have L2 := didSetS_below (L1) (show wr.heap.size ≤ wr.heap.size + 1 by omega) d0 d1 d2 d3 d4
    exact HQ.out (wr.heap.size) (wr.heap.size + 1 + 1) (wr.heap.size + 1) x2 _ _ _ _ _ _ _ _ _ _ _ L2 HD1.out (by omega) (by omega) (by omega) R220 R221 R222
  · have P0 := dnSetS_part (w1) (wr.heap.size) kk x2
    have R021 := dnSetS_row (HZz.out) kk x2
    have L0 := dnSetS_below (HB1.out) (show wr.heap.size ≤ wr.heap.size by omega) kk x2
    have R121 := Row.alloc (R021) (.cells #[.int .u64 pl, .int .u64 dd2, .int .u64 gg2] 31)
    have R120 := row_new (dnSetS (w1) (wr.heap.size) kk x2) (w1.heap.size) (by (try unfold semSet); (try unfold dnSetS); (try unfold didSetS); simp) 31 [.int .u64 pl, .int .u64 dd2, .int .u64 gg2]
    have L1 := below_more (L0) (.cells #[.int .u64 pl, .int .u64 dd2, .int .u64 gg2] 31)
    have R221 := Row.alloc (R121) (.cells #[.int .u8 d0, .int .i64 d1, .int .u64 d2, .int .u64 d3, .bool d4] 45)
    have R220 := Row.alloc (R120) (.cells #[.int .u8 d0, .int .i64 d1, .int .u64 d2, .int .u64 d3, .bool d4] 45)
    have R222 := row_new ((dnSetS (w1) (wr.heap.size) kk x2).alloc (.cells #[.int .u64 pl, .int .u64 dd2, .int .u64 gg2] 31)) (w1.heap.size + 1) (by (try unfold semSet); (try unfold dnSetS); (try unfold didSetS); simp) 45 [.int .u8 d0, .int .i64 d1, .int .u64 d2, .int .u64 d3, .bool d4]
    have L2 := below_more (L1) (.cells #[.int .u8 d0, .int .i64 d1, .int .u64 d2, .int .u64 d3, .bool d4] 45)
    exact HQ.out (w1.heap.size) (wr.heap.size) (w1.heap.size + 1) x2 _ _ _ _ _ _ _ _ _ _ _ L2 HD1.out (by omega) (by omega) (by omega) R220 R221 R222
  · have P0 := dnSetS_part (w1) (wr.heap.size) kk x2
    have R021 := dnSetS_row (HZz.out) kk x2
    have L0 := dnSetS_below (HB1.out) (show wr.heap.size ≤ wr.heap.size by omega) kk x2
    have R121 := Row.alloc (R021) (.cells #[.int .u8 d0, .int .i64 d1, .int .u64 d2, .int .u64 d3, .bool d4] 45)
    have R122 := row_new (dnSetS (w1) (wr.heap.size) kk x2) (w1.heap.size) (by (try unfold semSet); (try unfold dnSetS); (try unfold didSetS); simp) 45 [.int .u8 d0, .int .i64 d1, .int .u64 d2, .int .u64 d3, .bool d4]
    have L1 := below_more (L0) (.cells #[.int .u8 d0, .int .i64 d1, .int .u64 d2, .int .u64 d3, .bool d4] 45)
    have R221 := Row.alloc (R121) (.cells #[.int .u64 pl, .int .u64 dd2, .int .u64 gg2] 31)
    have R222 := Row.alloc (R122) (.cells #[.int .u64 pl, .int .u64 dd2, .int .u64 gg2] 31)
    have R220 := row_new ((dnSetS (w1) (wr.heap.size) kk x2).alloc (.cells #[.int .u8 d0, .int .i64 d1, .int .u64 d2, .int .u64 d3, .bool d4] 45)) (w1.heap.size + 1) (by (try unfold semSet); (try unfold dnSetS); (try unfold didSetS); simp) 31 [.int .u64 pl, .int .u64 dd2, .int .u64 gg2]
    have L2 := below_more (L1) (.cells #[.int .u64 pl, .int .u64 dd2, .int .u64 gg2] 31)
    exact HQ.out (w1.heap.size + 1) (wr.heap.size) (w1.heap.size) x2 _ _ _ _ _ _ _ _ _ _ _ L2 HD1.out (by omega) (by omega) (by omega) R220 R221 R222
  · have P0 := semSet_part (w1) (wr.heap.size + 1) (.int .u64 pl) (.int .u64 dd2) (.int .u64 gg2)
    have R021 := Row.part (HZz.out) P0 (not_sing (by omega))
    have R020 := semSet_row (HZy.out) (.int .u64 pl) (.int .u64 dd2) (.int .u64 gg2)
    have L0 := semSet_below (HB1.out) (show wr.heap.size ≤ wr.heap.size + 1 by omega) (.int .u64 pl) (.int .u64 dd2) (.int .u64 gg2)
    have P1 := dnSetS_part (semSet (w1) (wr.heap.size + 1) (.int .u64 pl) (.int .u64 dd2) (.int .u64 gg2)) (wr.heap.size) kk x2
    have R121 := dnSetS_row (R021) kk x2
    have R120 := Row.part (R020) P1 (not_sing (by omega))
    have L1 := dnSetS_below (L0) (show wr.heap.size ≤ wr.heap.size by omega) kk x2
    have R221 := Row.alloc (R121) (.cells #[.int .u8 d0, .int .i64 d1, .int .u64 d2, .int .u64 d3, .bool d4] 45)
    have R220 := Row.alloc (R120) (.cells #[.int .u8 d0, .int .i64 d1, .int .u64 d2, .int .u64 d3, .bool d4] 45)
    have R222 := row_new (dnSetS (semSet (w1) (wr.heap.size + 1) (.int .u64 pl) (.int .u64 dd2) (.int .u64 gg2)) (wr.heap.size) kk x2) (w1.heap.size) (by (try unfold semSet); (try unfold dnSetS); (try unfold didSetS); simp) 45 [.int .u8 d0, .int .i64 d1, .int .u64 d2, .int .u64 d3, .bool d4]
    have L2 := below_more (L1) (.cells #[.int .u8 d0, .int .i64 d1, .int .u64 d2, .int .u64 d3, .bool d4] 45)
    exact HQ.out (wr.heap.size + 1) (wr.heap.size) (w1.heap.size) x2 _ _ _ _ _ _ _ _ _ _ _ L2 HD1.out (by omega) (by omega) (by omega) R220 R221 R222
  · have P0 := semSet_part (w1) (wr.heap.size + 1) (.int .u64 pl) (.int .u64 dd2) (.int .u64 gg2)
    have R021 := Row.part (HZz.out) P0 (not_sing (by omega))
    have R020 := semSet_row (HZy.out) (.int .u64 pl) (.int .u64 dd2) (.int .u64 gg2)
    have R022 := Row.part (HZx.out) P0 (not_sing (by omega))
    have L0 := semSet_below (HB1.out) (show wr.heap.size ≤ wr.heap.size + 1 by omega) (.int .u64 pl) (.int .u64 dd2) (.int .u64 gg2)
    have P1 := dnSetS_part (semSet (w1) (wr.heap.size + 1) (.int .u64 pl) (.int .u64 dd2) (.int .u64 gg2)) (wr.heap.size) kk x2
    have R121 := dnSetS_row (R021) kk x2
    have R120 := Row.part (R020) P1 (not_sing (by omega))
    have R122 := Row.part (R022) P1 (not_sing (by omega))
    have L1 := dnSetS_below (L0) (show wr.heap.size ≤ wr.heap.size by omega) kk x2
    have P2 := didSetS_part (dnSetS (semSet (w1) (wr.heap.size + 1) (.int .u64 pl) (.int .u64 dd2) (.int .u64 gg2)) (wr.heap.size) kk x2) (wr.heap.size + 1 + 1) d0 d1 d2 d3 d4
    have R221 := Row.part (R121) P2 (not_sing (by omega))
    have R220 := Row.part (R120) P2 (not_sing (by omega))
    have R222 := didSetS_row (R122) d0 d1 d2 d3 d4
    have L2 := didSetS_below (L1) (show wr.heap.size ≤ wr.heap.size + 1 + 1 by omega) d0 d1 d2 d3 d4
    exact HQ.out (wr.heap.size + 1) (wr.heap.size) (wr.heap.size + 1 + 1) x2 _ _ _ _ _ _ _ _ _ _ _ L2 HD1.out (by omega) (by omega) (by omega) R220 R221 R222
  · have P0 := dnSetS_part (w1) (wr.heap.size) kk x2
    have R021 := dnSetS_row (HZz.out) kk x2
    have R022 := Row.part (HZy.out) P0 (not_sing (by omega))
    have L0 := dnSetS_below (HB1.out) (show wr.heap.size ≤ wr.heap.size by omega) kk x2
    have P1 := didSetS_part (dnSetS (w1) (wr.heap.size) kk x2) (wr.heap.size + 1) d0 d1 d2 d3 d4
    have R121 := Row.part (R021) P1 (not_sing (by omega))
    have R122 := didSetS_row (R022) d0 d1 d2 d3 d4
    have L1 := didSetS_below (L0) (show wr.heap.size ≤ wr.heap.size + 1 by omega) d0 d1 d2 d3 d4
    have R221 := Row.alloc (R121) (.cells #[.int .u64 pl, .int .u64 dd2, .int .u64 gg2] 31)
    have R222 := Row.alloc (R122) (.cells #[.int .u64 pl, .int .u64 dd2, .int .u64 gg2] 31)
    have R220 := row_new (didSetS (dnSetS (w1) (wr.heap.size) kk x2) (wr.heap.size + 1) d0 d1 d2 d3 d4) (w1.heap.size) (by (try unfold semSet); (try unfold dnSetS); (try unfold didSetS); simp) 31 [.int .u64 pl, .int .u64 dd2, .int .u64 gg2]
    have L2 := below_more (L1) (.cells #[.int .u64 pl, .int .u64 dd2, .int .u64 gg2] 31)
    exact HQ.out (w1.heap.size) (wr.heap.size) (wr.heap.size + 1) x2 _ _ _ _ _ _ _ _ _ _ _ L2 HD1.out (by omega) (by omega) (by omega) R220 R221 R222
  · have P0 := semSet_part (w1) (wr.heap.size + 1 + 1) (.int .u64 pl) (.int .u64 dd2) (.int .u64 gg2)
    have R021 := Row.part (HZz.out) P0 (not_sing (by omega))
    have R022 := Row.part (HZy.out) P0 (not_sing (by omega))
    have R020 := semSet_row (HZx.out) (.int .u64 pl) (.int .u64 dd2) (.int .u64 gg2)
    have L0 := semSet_below (HB1.out) (show wr.heap.size ≤ wr.heap.size + 1 + 1 by omega) (.int .u64 pl) (.int .u64 dd2) (.int .u64 gg2)
    have P1 := dnSetS_part (semSet (w1) (wr.heap.size + 1 + 1) (.int .u64 pl) (.int .u64 dd2) (.int .u64 gg2)) (wr.heap.size) kk x2
    have R121 := dnSetS_row (R021) kk x2
    have R122 := Row.part (R022) P1 (not_sing (by omega))
    have R120 := Row.part (R020) P1 (not_sing (by omega))
    have L1 := dnSetS_below (L0) (show wr.heap.size ≤ wr.heap.size by omega) kk x2
    have P2 := didSetS_part (dnSetS (semSet (w1) (wr.heap.size + 1 + 1) (.int .u64 pl) (.int .u64 dd2) (.int .u64 gg2)) (wr.heap.size) kk x2) (wr.heap.size + 1) d0 d1 d2 d3 d4
    have R221 := Row.part (R121) P2 (not_sing (by omega))
    have R222 := didSetS_row (R122) d0 d1 d2 d3 d4
    have R220 := Row.part (R120) P2 (not_sing (by omega))
    have L2 := didSetS_below (L1) (show wr.heap.size ≤ wr.heap.size + 1 by omega) d0 d1 d2 d3 d4
    exact HQ.out (wr.heap.size + 1 + 1) (wr.heap.size) (wr.heap.size + 1) x2 _ _ _ _ _ _ _ _ _ _ _ L2 HD1.out (by omega) (by omega) (by omega) R220 R221 R222
  · have P0 := didSetS_part (w1) (wr.heap.size) d0 d1 d2 d3 d4
    have R022 := didSetS_row (HZz.out) d0 d1 d2 d3 d4
    have L0 := didSetS_below (HB1.out) (show wr.heap.size ≤ wr.heap.size by omega) d0 d1 d2 d3 d4
    have R122 := Row.alloc (R022) (.cells #[.int .u64 pl, .int .u64 dd2, .int .u64 gg2] 31)
    have R120 := row_new (didSetS (w1) (wr.heap.size) d0 d1 d2 d3 d4) (w1.heap.size) (by (try unfold semSet); (try unfold dnSetS); (try unfold didSetS); simp) 31 [.int .u64 pl, .int .u64 dd2, .int .u64 gg2]
    have L1 := below_more (L0) (.cells #[.int .u64 pl, .int .u64 dd2, .int .u64 gg2] 31)
    have R222 := Row.alloc (R122) (.cells #[.int .u8 kk, .int .i64 x2.at_, .int .u64 x2.fi, .int .u64 x2.la, .bool x2.en, .int .u64 x2.su, .int .i64 x2.wy] 40)
    have R220 := Row.alloc (R120) (.cells #[.int .u8 kk, .int .i64 x2.at_, .int .u64 x2.fi, .int .u64 x2.la, .bool x2.en, .int .u64 x2.su, .int .i64 x2.wy] 40)
    have R221 := row_new ((didSetS (w1) (wr.heap.size) d0 d1 d2 d3 d4).alloc (.cells #[.int .u64 pl, .int .u64 dd2, .int .u64 gg2] 31)) (w1.heap.size + 1) (by (try unfold semSet); (try unfold dnSetS); (try unfold didSetS); simp) 40 [.int .u8 kk, .int .i64 x2.at_, .int .u64 x2.fi, .int .u64 x2.la, .bool x2.en, .int .u64 x2.su, .int .i64 x2.wy]
    have L2 := below_more (L1) (.cells #[.int .u8 kk, .int .i64 x2.at_, .int .u64 x2.fi, .int .u64 x2.la, .bool x2.en, .int .u64 x2.su, .int .i64 x2.wy] 40)
    exact HQ.out (w1.heap.size) (w1.heap.size + 1) (wr.heap.size) x2 _ _ _ _ _ _ _ _ _ _ _ L2 HD1.out (by omega) (by omega) (by omega) R220 R221 R222
  · have P0 := didSetS_part (w1) (wr.heap.size) d0 d1 d2 d3 d4
    have R022 := didSetS_row (HZz.out) d0 d1 d2 d3 d4
    have L0 := didSetS_below (HB1.out) (show wr.heap.size ≤ wr.heap.size by omega) d0 d1 d2 d3 d4
    have R122 := Row.alloc (R022) (.cells #[.int .u8 kk, .int .i64 x2.at_, .int .u64 x2.fi, .int .u64 x2.la, .bool x2.en, .int .u64 x2.su, .int .i64 x2.wy] 40)
    have R121 := row_new (didSetS (w1) (wr.heap.size) d0 d1 d2 d3 d4) (w1.heap.size) (by (try unfold semSet); (try unfold dnSetS); (try unfold didSetS); simp) 40 [.int .u8 kk, .int .i64 x2.at_, .int .u64 x2.fi, .int .u64 x2.la, .bool x2.en, .int .u64 x2.su, .int .i64 x2.wy]
    have L1 := below_more (L0) (.cells #[.int .u8 kk, .int .i64 x2.at_, .int .u64 x2.fi, .int .u64 x2.la, .bool x2.en, .int .u64 x2.su, .int .i64 x2.wy] 40)
    have R222 := Row.alloc (R122) (.cells #[.int .u64 pl, .int .u64 dd2, .int .u64 gg2] 31)
    have R221 := Row.alloc (R121) (.cells #[.int .u64 pl, .int .u64 dd2, .int .u64 gg2] 31)
    have R220 := row_new ((didSetS (w1) (wr.heap.size) d0 d1 d2 d3 d4).alloc (.cells #[.int .u8 kk, .int .i64 x2.at_, .int .u64 x2.fi, .int .u64 x2.la, .bool x2.en, .int .u64 x2.su, .int .i64 x2.wy] 40)) (w1.heap.size + 1) (by (try unfold semSet); (try unfold dnSetS); (try unfold didSetS); simp) 31 [.int .u64 pl, .int .u64 dd2, .int .u64 gg2]
    have L2 := below_more (L1) (.cells #[.int .u64 pl, .int .u64 dd2, .int .u64 gg2] 31)
    exact HQ.out (w1.heap.size + 1) (w1.heap.size) (wr.heap.size) x2 _ _ _ _ _ _ _ _ _ _ _ L2 HD1.out (by omega) (by omega) (by omega) R220 R221 R222
  · have P0 := semSet_part (w1) (wr.heap.size + 1) (.int .u64 pl) (.int .u64 dd2) (.int .u64 gg2)
    have R022 := Row.part (HZz.out) P0 (not_sing (by omega))
    have R020 := semSet_row (HZy.out) (.int .u64 pl) (.int .u64 dd2) (.int .u64 gg2)
    have L0 := semSet_below (HB1.out) (show wr.heap.size ≤ wr.heap.size + 1 by omega) (.int .u64 pl) (.int .u64 dd2) (.int .u64 gg2)
    have P1 := didSetS_part (semSet (w1) (wr.heap.size + 1) (.int .u64 pl) (.int .u64 dd2) (.int .u64 gg2)) (wr.heap.size) d0 d1 d2 d3 d4
    have R122 := didSetS_row (R022) d0 d1 d2 d3 d4
    have R120 := Row.part (R020) P1 (not_sing (by omega))
    have L1 := didSetS_below (L0) (show wr.heap.size ≤ wr.heap.size by omega) d0 d1 d2 d3 d4
    have R222 := Row.alloc (R122) (.cells #[.int .u8 kk, .int .i64 x2.at_, .int .u64 x2.fi, .int .u64 x2.la, .bool x2.en, .int .u64 x2.su, .int .i64 x2.wy] 40)
    have R220 := Row.alloc (R120) (.cells #[.int .u8 kk, .int .i64 x2.at_, .int .u64 x2.fi, .int .u64 x2.la, .bool x2.en, .int .u64 x2.su, .int .i64 x2.wy] 40)
    have R221 := row_new (didSetS (semSet (w1) (wr.heap.size + 1) (.int .u64 pl) (.int .u64 dd2) (.int .u64 gg2)) (wr.heap.size) d0 d1 d2 d3 d4) (w1.heap.size) (by (try unfold semSet); (try unfold dnSetS); (try unfold didSetS); simp) 40 [.int .u8 kk, .int .i64 x2.at_, .int .u64 x2.fi, .int .u64 x2.la, .bool x2.en, .int .u64 x2.su, .int .i64 x2.wy]
    have L2 := below_more (L1) (.cells #[.int .u8 kk, .int .i64 x2.at_, .int .u64 x2.fi, .int .u64 x2.la, .bool x2.en, .int .u64 x2.su, .int .i64 x2.wy] 40)
    exact HQ.out (wr.heap.size + 1) (w1.heap.size) (wr.heap.size) x2 _ _ _ _ _ _ _ _ _ _ _ L2 HD1.out (by omega) (by omega) (by omega) R220 R221 R222
  · have P0 := semSet_part (w1) (wr.heap.size + 1) (.int .u64 pl) (.int .u64 dd2) (.int .u64 gg2)
    have R022 := Row.part (HZz.out) P0 (not_sing (by omega))
    have R020 := semSet_row (HZy.out) (.int .u64 pl) (.int .u64 dd2) (.int .u64 gg2)
    have R021 := Row.part (HZx.out) P0 (not_sing (by omega))
    have L0 := semSet_below (HB1.out) (show wr.heap.size ≤ wr.heap.size + 1 by omega) (.int .u64 pl) (.int .u64 dd2) (.int .u64 gg2)
    have P1 := dnSetS_part (semSet (w1) (wr.heap.size + 1) (.int .u64 pl) (.int .u64 dd2) (.int .u64 gg2)) (wr.heap.size + 1 + 1) kk x2
    have R122 := Row.part (R022) P1 (not_sing (by omega))
    have R120 := Row.part (R020) P1 (not_sing (by omega))
    have R121 := dnSetS_row (R021) kk x2
    have L1 := dnSetS_below (L0) (show wr.heap.size ≤ wr.heap.size + 1 + 1 by omega) kk x2
    have P2 := didSetS_part (dnSetS (semSet (w1) (wr.heap.size + 1) (.int .u64 pl) (.int .u64 dd2) (.int .u64 gg2)) (wr.heap.size + 1 + 1) kk x2) (wr.heap.size) d0 d1 d2 d3 d4
    have R222 := didSetS_row (R122) d0 d1 d2 d3 d4
    have R220 := Row.part (R120) P2 (not_sing (by omega))
    have R221 := Row.part (R121) P2 (not_sing (by omega))
    have L2 := didSetS_below (L1) (show wr.heap.size ≤ wr.heap.size by omega) d0 d1 d2 d3 d4
    exact HQ.out (wr.heap.size + 1) (wr.heap.size + 1 + 1) (wr.heap.size) x2 _ _ _ _ _ _ _ _ _ _ _ L2 HD1.out (by omega) (by omega) (by omega) R220 R221 R222
  · have P0 := dnSetS_part (w1) (wr.heap.size + 1) kk x2
    have R022 := Row.part (HZz.out) P0 (not_sing (by omega))
    have R021 := dnSetS_row (HZy.out) kk x2
    have L0 := dnSetS_below (HB1.out) (show wr.heap.size ≤ wr.heap.size + 1 by omega) kk x2
    have P1 := didSetS_part (dnSetS (w1) (wr.heap.size + 1) kk x2) (wr.heap.size) d0 d1 d2 d3 d4
    have R122 := didSetS_row (R022) d0 d1 d2 d3 d4
    have R121 := Row.part (R021) P1 (not_sing (by omega))
    have L1 := didSetS_below (L0) (show wr.heap.size ≤ wr.heap.size by omega) d0 d1 d2 d3 d4
    have R222 := Row.alloc (R122) (.cells #[.int .u64 pl, .int .u64 dd2, .int .u64 gg2] 31)
    have R221 := Row.alloc (R121) (.cells #[.int .u64 pl, .int .u64 dd2, .int .u64 gg2] 31)
    have R220 := row_new (didSetS (dnSetS (w1) (wr.heap.size + 1) kk x2) (wr.heap.size) d0 d1 d2 d3 d4) (w1.heap.size) (by (try unfold semSet); (try unfold dnSetS); (try unfold didSetS); simp) 31 [.int .u64 pl, .int .u64 dd2, .int .u64 gg2]
    have L2 := below_more (L1) (.cells #[.int .u64 pl, .int .u64 dd2, .int .u64 gg2] 31)
    exact HQ.out (w1.heap.size) (wr.heap.size + 1) (wr.heap.size) x2 _ _ _ _ _ _ _ _ _ _ _ L2 HD1.out (by omega) (by omega) (by omega) R220 R221 R222
  · have P0 := semSet_part (w1) (wr.heap.size + 1 + 1) (.int .u64 pl) (.int .u64 dd2) (.int .u64 gg2)
    have R022 := Row.part (HZz.out) P0 (not_sing (by omega))
    have R021 := Row.part (HZy.out) P0 (not_sing (by omega))
    have R020 := semSet_row (HZx.out) (.int .u64 pl) (.int .u64 dd2) (.int .u64 gg2)
    have L0 := semSet_below (HB1.out) (show wr.heap.size ≤ wr.heap.size + 1 + 1 by omega) (.int .u64 pl) (.int .u64 dd2) (.int .u64 gg2)
    have P1 := dnSetS_part (semSet (w1) (wr.heap.size + 1 + 1) (.int .u64 pl) (.int .u64 dd2) (.int .u64 gg2)) (wr.heap.size + 1) kk x2
    have R122 := Row.part (R022) P1 (not_sing (by omega))
    have R121 := dnSetS_row (R021) kk x2
    have R120 := Row.part (R020) P1 (not_sing (by omega))
    have L1 := dnSetS_below (L0) (show wr.heap.size ≤ wr.heap.size + 1 by omega) kk x2
    have P2 := didSetS_part (dnSetS (semSet (w1) (wr.heap.size + 1 + 1) (.int .u64 pl) (.int .u64 dd2) (.int .u64 gg2)) (wr.heap.size + 1) kk x2) (wr.heap.size) d0 d1 d2 d3 d4
    have R222 := didSetS_row (R122) d0 d1 d2 d3 d4
    have R221 := Row.part (R121) P2 (not_sing (by omega))
    have R220 := Row.part (R120) P2 (not_sing (by omega))
    have L2 := didSetS_below (L1) (show wr.heap.size ≤ wr.heap.size by omega) d0 d1 d2 d3 d4
    exact HQ.out (wr.heap.size + 1 + 1) (wr.heap.size + 1) (wr.heap.size) x2 _ _ _ _ _ _ _ _ _ _ _ L2 HD1.out (by omega) (by omega) (by omega) R220 R221 R222
end Go.Proofs.Ytamigipljgijlaa
