/- NextParts: the times of two spans, one behind the other, are those of both: walked. -/
import Derived.Test.YtkimbmifabpppaaDoorKHSort2
import Derived.Laws.OwnMore
namespace Go.Proofs.YtkimbmifabpppaaDoor
open Go.RowKit

theorem tri_cells (w : World) (a b c d e : BitVec 64) (x y z : Int) :
    ∃ W : World, W = (w.alloc (.cells #[.int .u64 (U a), .int .u64 (U b), .int .u64 (U c), .int .u64 (U d), .int .u64 (U e)] 25)).alloc (.cells #[.int .i64 x, .int .i64 y, .int .i64 z] 44) ∧ Below w.heap.size w W ∧ CronAt W w.heap.size [a, b, c, d, e] ∧ D.Box W (w.heap.size + 1) 44 #[.int .i64 x, .int .i64 y, .int .i64 z] ∧ W.heap.size = w.heap.size + 2 := by
  refine ⟨_, rfl, ((Below.refl _ w).alloc (Nat.le_refl _) _).alloc (by simp) _, (CronAt.new w a b c d e).alloc _, ?_, by simp⟩
  have := D.Box.new (w.alloc (.cells #[.int .u64 (U a), .int .u64 (U b), .int .u64 (U c), .int .u64 (U d), .int .u64 (U e)] 25)) 44 #[.int .i64 x, .int .i64 y, .int .i64 z]
  rwa [World.size_alloc] at this
theorem wpList_append_want {P : Program} {w : World} {ops : Array Oper} {rest : List Oper} {o : Oper} {a : Act} {Q : Exit → Act → World → Prop} (hw : Region.wanted o (yielded ops a.tmps) = true) (s x : Operand) (t : TypeId)
    (ho : o.op = .call { callee := .builtin .append, args := #[s, x], argTypes := #[t, t] })
    (base : Nat) (e : TypeId) (i : TypeInfo) (z : Value) (size bytes : Nat) (ht : P.underlying t = some (.slice e)) (hi : P.info? e = some i) (hz : i.zero = some z)
    (hsize : i.size = size) (hby : i.bytes = bytes) (hzs : z.cells.size = size) (hsz : 0 < size)
    (v : Value) (n : Nat) (xs : List Value) (hs : a.eval s = v) (hown : w.ownsRow base e size v n xs)
    (ad : Addr) (m c : Nat) (news : List Value) (hx : a.eval x = .slice (some ad) m c) (hl : news.length = m * size) (hnews : ∀ j u, news[j]? = some u → w.cell? (ad.add j) = some u) (h1 : ∀ u ∈ news, u.oneCell' = true)
    (h63 : n + m ≤ maxLen) (hbytes : (n + m) * bytes ≤ 140737488355328) (hbase : base ≤ w.heap.size)
    (h : ∀ v' w', w'.ownsRow base e size v' (n + m) (xs ++ news) → w.grownBy w' v.ownBlock → wpList P ops Q rest (a.put o.dst v') w') : wpList P ops Q (o :: rest) a w :=
  wpList_step fun K hK => by
    rw [if_pos hw]
    exact wp_append_own w s x t ho base e i z size bytes ht hi hz hsize hby hzs hsz v n xs hs hown ad m c news hx hl hnews h1 h63 hbytes hbase fun v' w' h2 h3 _ => hK _ _ (h v' w' h2 h3)
theorem wpList_append_want_none {P : Program} {w : World} {ops : Array Oper} {rest : List Oper} {o : Oper} {a : Act} {Q : Exit → Act → World → Prop} (hw : Region.wanted o (yielded ops a.tmps) = true) (s x : Operand) (t : TypeId)
    (ho : o.op = .call { callee := .builtin .append, args := #[s, x], argTypes := #[t, t] })
    (base : Nat) (e : TypeId) (i : TypeInfo) (size : Nat) (ht : P.underlying t = some (.slice e)) (hi : P.info? e = some i)
    (v : Value) (n : Nat) (xs : List Value) (hs : a.eval s = v) (hown : w.ownsRow base e size v n xs) (hx : a.eval x = .slice none 0 0)
    (h : wpList P ops Q rest (a.put o.dst v) w) : wpList P ops Q (o :: rest) a w :=
  wpList_step fun K hK => by
    rw [if_pos hw]
    have hrun := run_append_owned_none (P := P) (w := w) base t o.type e i size ht hi v n xs hown
    unfold Oper.wp
    simp [execOp, ho, resolve, invoke, builtin, hs, hx, hrun, Result.andThen]
    exact hK _ _ h
set_option maxRecDepth 100000 in
set_option maxHeartbeats 2000000 in
theorem parts_walk (a b c d e : BitVec 64) (x0 y0 z0 m : Int) (w : World) (hL : LaidC w) :
    Calls Tryd.prog 8 #[cronV [a, b, c, d, e], .agg #[.int .i64 x0, .int .i64 y0, .int .i64 z0], .int .i64 m] w fun x w' => x = .returned (.bool true) ∧ Below w.heap.size w w' := by
  obtain ⟨WB, hWB, hb0, hc0, hx0, _⟩ := tri_cells w a b c d e x0 y0 z0
  have HWK := Lib.hid hwakes_any
  have HSM := Lib.hid (fun s0 s1 m W hW => some_int [a, b, c, d, e] s0 s1 m W hW rfl)
  have HB0 := Lib.hid hb0; have HC := Lib.hid hc0; have HXB := Lib.hid hx0; have HL := Lib.hid (hL.on hb0)
  have HX0 := Lib.hid (Below.refl WB.heap.size WB)
  have HLW := Lib.hid hL
  have hwb := hb0.size
  have hg1 := hc0.lt
  unfold spanV at *
  rw [cronV_five] at *
  unfold fiveV at *
  clear hL hb0 hc0 hx0
  go_enter Tryd.func8, Tryd.ntmps8
  go_wp2_with fail
  rw [← hWB]
  clear hWB
  refine (HWK.out _ HL.out).mono ?_
  rintro x w1 ⟨rfl, hb⟩
  have HX1 := Lib.hid (HX0.out.trans (hb.mono HX0.out.size))
  clear hb HX0
  have HBX := Lib.hid (D.Box.belowAll HXB.out HX1.out)
  go_wp2_with fail
  refine (sorts_any (w.heap.size + 1) 44 x0 y0 z0 w1 HBX.out).mono ?_
  rintro x w2 ⟨rfl, l0, l1, l2, hbx, h01, h12, hsole⟩
  have HBX2 := Lib.hid hbx
  have HC2 : Hid (CronAt w2 w.heap.size [a, b, c, d, e]) := Lib.hid ((HC.out.on HX1.out).block hsole (by omega))
  have HB2 : Hid (Below w.heap.size w w2) := Lib.hid ((HB0.out.trans (HX1.out.mono HB0.out.size)).trans (hsole.below (by omega) (by have := HX1.out.size; omega)))
  have HL2 := Lib.hid (HLW.out.on HB2.out)
  obtain ⟨nn, hnn⟩ : ∃ nn, wrap64 ((IntKind.u64.wrap m).tmod 10) = nn := ⟨_, rfl⟩
  have hnr : 0 ≤ nn ∧ nn ≤ 9 := by
    rw [← hnn]
    have h0 : 0 ≤ IntKind.u64.wrap m := by rw [IntKind.wrap_u64]; omega
    rw [Int.tmod_eq_emod_of_nonneg h0]
    unfold wrap64
    omega
  obtain ⟨n0, n1⟩ := hnr
  have HY2 := Lib.hid (Below.refl w2.heap.size w2)
  clear hsole hbx HBX HX1 HC HXB HL HWK HLW HB0
  obtain ⟨c0, c1, c2, c3, c4⟩ := HC2.out.five
  obtain ⟨b0, b1, b2, _, _, _⟩ := D.Box.three HBX2.out
  go_wp2_with fail
  rw [hnn]
  clear hnn c0 c1 c2 c3 c4 b0 b1 b2
  refine (HSM.out l0 l1 nn w2 HL2.out).mono ?_
  rintro x w3 ⟨hx, hb⟩
  have HY3 := Lib.hid hb
  clear hb HY2
  obtain ⟨c0, c1, c2, c3, c4⟩ := (HC2.out.on HY3.out).five
  obtain ⟨b0, b1, b2, _, _, _⟩ := D.Box.three (D.Box.belowAll HBX2.out HY3.out)
  rcases hx with ⟨hk, rfl⟩ | ⟨hk, hm, rfl⟩ | ⟨hk, _, _, A1, cp1, la, rfl, har1, hrow1, hch1⟩
  · go_wp2_with fail
    clear c0 c1 c2 c3 c4 b0 b1 b2
    refine (HSM.out l1 l2 nn w3 (HL2.out.on HY3.out)).mono ?_
    rintro x w4 ⟨hx, hb⟩
    have HY4 := Lib.hid (HY3.out.trans (hb.mono HY3.out.size))
    clear hb HY3
    rcases hx with ⟨_, rfl⟩ | ⟨hk2, _⟩ | ⟨hk2, _⟩
    case inr.inl => exact absurd (hk.symm.trans hk2) (by simp)
    case inr.inr => exact absurd (hk.symm.trans hk2) (by simp)
    obtain ⟨c0, c1, c2, c3, c4⟩ := (HC2.out.on HY4.out).five
    obtain ⟨b0, b1, b2, _, _, _⟩ := D.Box.three (D.Box.belowAll HBX2.out HY4.out)
    go_wp2_with fail
    clear c0 c1 c2 c3 c4 b0 b1 b2
    refine (HSM.out l0 l2 nn w4 (HL2.out.on HY4.out)).mono ?_
    rintro x w5 ⟨hx, hb⟩
    have HY5 := Lib.hid (HY4.out.trans (hb.mono HY4.out.size))
    clear hb HY4
    rcases hx with ⟨_, rfl⟩ | ⟨hk2, _⟩ | ⟨hk2, _⟩
    case inr.inl => exact absurd (hk.symm.trans hk2) (by simp)
    case inr.inr => exact absurd (hk.symm.trans hk2) (by simp)
    clear hk
    go_wp2_with fail
    go_ret
    exact ⟨rfl, HB2.out.trans (HY5.out.mono HB2.out.size)⟩
  · omega
  · have hlen := chain_len _ _ _ _ hch1
    have HK := Lib.hid hk
    have HAR1 := Lib.hid har1; have HROW1 := Lib.hid hrow1; have HCH1 := Lib.hid hch1
    have hln : (la.length : Int) ≤ nn := by omega
    clear har1 hrow1 hch1 hk
    go_wp2_with fail
    clear c0 c1 c2 c3 c4 b0 b1 b2
    refine (HSM.out l1 l2 (nn - la.length) w3 (HL2.out.on HY3.out)).mono ?_
    rintro x w4 ⟨hx, hb⟩
    have HY4 := Lib.hid (HY3.out.trans (hb.mono HY3.out.size)); have HROW1b := Lib.hid (own_below HROW1.out hb)
    have hw3 := hb.size
    clear hb HY3
    rcases hx with ⟨hk2, _⟩ | ⟨_, hm2, _⟩ | ⟨_, _, _, A2, cp2, lb, rfl, har2, hrow2, hch2⟩
    case inl => exact absurd (HK.out.symm.trans hk2) (by simp)
    case inr.inl => omega
    have hlen2 := chain_len _ _ _ _ hch2
    have HROW2 := Lib.hid hrow2; have HCH2 := Lib.hid hch2
    clear har2 hrow2 hch2
    obtain ⟨c0, c1, c2, c3, c4⟩ := (HC2.out.on HY4.out).five
    obtain ⟨b0, b1, b2, _, _, _⟩ := D.Box.three (D.Box.belowAll HBX2.out HY4.out)
    go_wp2_with fail
    clear c0 c1 c2 c3 c4 b0 b1 b2
    refine (HSM.out l0 l2 nn w4 (HL2.out.on HY4.out)).mono ?_
    rintro x w5 ⟨hx, hb⟩
    have HY5 := Lib.hid (HY4.out.trans (hb.mono HY4.out.size)); have HROW1c := Lib.hid (own_below HROW1b.out hb); have HROW2b := Lib.hid (own_below HROW2.out hb)
    have hw4 := hb.size
    have hlt1 := HROW1.out.lt
    clear hb HY4
    rcases hx with ⟨hk2, _⟩ | ⟨_, hm2, _⟩ | ⟨_, _, _, A3, cp3, lc, rfl, har3, hrow3, hch3⟩
    case inl => exact absurd (HK.out.symm.trans hk2) (by simp)
    case inr.inl => omega
    have hcc : lc = la ++ lb := by
      refine chain_one _ _ _ _ _ hch3 (chain_append nn.toNat l0 l1 l2 la lb h01 h12 HCH1.out ?_)
      have e : (nn - (la.length : Int)).toNat = nn.toNat - la.length := by omega
      rw [← e]; exact HCH2.out
    subst hcc
    have HROW3 := Lib.hid hrow3
    have hlc : (la ++ lb).length ≤ 64 := by have := chain_len _ _ _ _ hch3; omega
    have hap : (Value.slice A3 (la ++ lb).length cp3).ownBlock = none ∨ (Value.slice A3 (la ++ lb).length cp3).ownBlock ≠ (Value.slice A1 la.length cp1).ownBlock := by
      cases hv3 : (Value.slice A3 (la ++ lb).length cp3).ownBlock with
      | none => exact .inl rfl
      | some k3 =>
        right
        intro he
        have h3 := (hrow3.lt k3 hv3).1
        have h1 := (HROW1.out.lt k3 he.symm).2
        omega
    clear har3 hrow3 hch3 HROW1 HROW1b HROW2 HCH1 HCH2
    obtain ⟨i0, hi, hz0, hz1, hz2⟩ := info_parts info_i64
    have hll : la.length + lb.length ≤ 64 := by rw [List.length_append] at hlc; exact hlc
    rcases HROW2b.out.2 with ⟨he, h0⟩ | ⟨g2, cp2', cur, he, _⟩
    · have hlb : lb = [] := List.length_eq_zero_iff.1 h0
      subst hlb
      injection he with he1 he2 he3
      subst he1; subst he3
      clear he2 h0
      simp only [List.append_nil] at *
      go_wp2_with (at_builtin; refine wpList_append_want_none (by rfl) _ _ 26 rfl w2.heap.size 2 i0 1 Tryd.underlying26 hi _ _ _ rfl HROW1c.out rfl ?_)
      refine (equal_i64 A1 A3 la.length cp1 cp3 la w5 (by unfold maxLen; omega) (own_arr HROW1c.out) (own_arr HROW3.out)).mono ?_
      rintro x w9 ⟨rfl, qq, rfl⟩
      have HY9 := Lib.hid (bdrewN (HB2.out.trans (HY5.out.mono HB2.out.size)) qq)
      generalize World.drewN _ qq = w10 at *
      go_wp2_with fail
      go_ret
      exact ⟨rfl, HY9.out⟩
    · injection he with he1 he2 he3
      subst he1; subst he3
      have hnews : ∀ j u, (lb.map int1)[j]? = some u → w5.cell? ((⟨g2, 0, none⟩ : Addr).add j) = some u := fun j u hj => HROW2b.out.cells (g := g2) rfl j u hj
      have HNEW := Lib.hid hnews
      clear hnews he2
      go_wp2_with (at_builtin; refine wpList_append_want (by rfl) _ _ 26 rfl w2.heap.size 2 i0 (.int .i64 0) 1 8 Tryd.underlying26 hi hz0 hz1 hz2 rfl (by decide) _ _ _ rfl HROW1c.out ⟨g2, 0, none⟩ lb.length cp2 (lb.map int1) rfl (by simp) HNEW.out (fun u hu => by obtain ⟨z, _, rfl⟩ := List.mem_map.1 hu; rfl) (by unfold maxLen; omega) (by omega) (by have := HY5.out.size; omega) ?_; intro v6 w6 hown6 hgrow6)
      obtain ⟨A6, c6, rfl⟩ := own_slice0 hown6
      rw [← List.map_append] at hown6
      have hrow3 := HROW3.out.kept hgrow6 hap
      have HY6 := Lib.hid ((HB2.out.trans (HY5.out.mono HB2.out.size)).grown hgrow6 (by have := HB2.out.size; have := HY5.out.size; omega) (fun j e => Nat.le_trans HB2.out.size (HROW1c.out.lt j e).1))
      have ha3 := own_arr hrow3
      rw [List.length_append] at ha3
      refine (equal_i64 A6 A3 (la.length + lb.length) c6 cp3 (la ++ lb) w6 (by unfold maxLen; omega) (own_arr hown6) ha3).mono ?_
      rintro x w9 ⟨rfl, qq, rfl⟩
      have HY9 := Lib.hid (bdrewN HY6.out qq)
      clear hown6 hgrow6 hrow3 ha3
      generalize World.drewN _ qq = w10 at *
      go_wp2_with fail
      go_ret
      exact ⟨rfl, HY9.out⟩
end Go.Proofs.YtkimbmifabpppaaDoor
