/-
  DiskRoom: there are never more bytes than there is room; what is refused changes nothing; what is read is new memory.
-/
import Derived.Test.YtpaekckahapngaaDiskKnown
import Derived.Test.YtpaekckahapngaaDiskOpen
import Derived.Laws.Concat
namespace Go.Proofs.Ytpaekckahapngaa.disk
open Go.ChangeShapes Go.WideShapes Go.ChangeAt Go.RowKit Go.Deep
open Go.Proofs.Ytpaekckahapngaa.bytes
set_option linter.unusedVariables false
set_option maxRecDepth 100000
set_option linter.unusedSimpArgs false

theorem Bs.str {B : Nat} {w : World} {a : Option Addr} {n c : Nat} {l : List UInt8} (h : Bs B w (.slice a n c) l) (hn : l.length = n) : (convert 29 9 (.slice a n c)).run Try.prog w = .ok (.string ⟨l.toArray⟩) w := by
  obtain ⟨a', c', e, hb⟩ := h.bytes
  injection e with e1 e2 e3
  subst e1 e3
  exact str_of hb.mem n c hn
/-- one byte of the one row beside the disk is another -/
theorem OneF.write {B k g q c j : Nat} {w : World} {d : Dk} {l : List UInt8} (h : OneF B w k d [(.slice (some ⟨g, 0, none⟩) q c, l)]) (hq : l.length = q) (y : UInt8) :
    OneF B (w.setCell ⟨g, j, none⟩ (.int .u8 (y.toNat : Int))) k d [(.slice (some ⟨g, 0, none⟩) q c, l.set j y)] ∧ Below B w (w.setCell ⟨g, j, none⟩ (.int .u8 (y.toNat : Int))) := by
  subst hq
  have ho : Own8 B w g l.length c l := h.row (by simp)
  refine h.grow ⟨⟨rfl, rfl, rfl, by simp [World.setCell], fun i _ hi => Below.heap_setCell _ _ _ i fun e => hi (by rw [e]; rfl)⟩, fun q hq => .inl hq⟩ ?_
  have := ho.store j y
  show World.ownsRow _ _ _ _ _ (l.set j y).length _
  rw [List.length_set]
  exact this
/-- what an append comes to, on a disk that has no count -/
theorem app_parts {d : Dk} (h : d.left = -1) (y : List UInt8) : (∃ d', app y d = (d', 0) ∧ d'.b = d.b ++ y ∧ d'.left = -1 ∧ d'.room = d.room) ∨ (∃ d', app y d = (d', 100) ∧ d'.b = d.b ∧ d'.left = -1 ∧ d'.room = d.room) := by
  by_cases hr : d.room < d.b.length + y.length
  · right
    refine ⟨tick d, ?_, rfl, ?_, rfl⟩
    · unfold app; rw [if_neg (by omega), if_pos hr]
    · show less d.left = -1
      unfold less; rw [if_neg (by omega)]; exact h
  · left
    exact ⟨_, app_free h (by omega), rfl, rfl, rfl⟩

set_option maxHeartbeats 8000000 in
theorem room_walk (a : Option Addr) (n c : Nat) (os : List Oq) (r : Int) (w : World) (hO : OpsIn w a os) (hn : os.length = n) (hn2 : n ≤ 9223372036854775807) (hr : 0 ≤ r ∧ r ≤ 65535) :
    Calls Try.prog 7 #[.int .u16 r, .slice a n c] w fun e w' => e = .returned (.bool true) ∧ Below w.heap.size w w' := by
  have K0 := fun W => known_any W
  have H0 := heavy_any n c a os w hO hn hn2
  cases hv : hvy os with
  | true =>
    rw [hv] at H0
    clear hO
    go_enter Try.func7, Try.ntmps7
    go_wp2_with (first | (go_at_call 15; with_reducible refine H0.mono ?_; rintro e w0 ⟨rfl, rfl⟩) | (go_at_call 13; with_reducible refine (K0 _).mono ?_; rintro e w1 ⟨rfl, b1⟩))
    go_ret
    exact ⟨rfl, b1⟩
  | false =>
  rw [hv] at H0
  obtain ⟨hl, ht⟩ := hvy_no hO.reach hv
  obtain ⟨M, hM⟩ : ∃ M : Nat, r % 500 = (M : Int) := ⟨(r % 500).toNat, by omega⟩
  have hM2 : M < 500 := by omega
  have H : Aside (OpsIn w a os ∧ os.length = n ∧ tot os ≤ 5000) := ⟨hO, hn, ht⟩
  have hn3 : n ≤ 100 := by omega
  clear hv hl ht hO hn
  have N1 : Aside (∀ W, Below w.heap.size w W → Calls Try.prog 9 #[.int .i64 (M : Nat)] W fun e w' => e = .returned (.pointer (some ⟨W.heap.size, 0, none⟩)) ∧ OneF w.heap.size w' W.heap.size (new M) [] ∧ Below w.heap.size w w') := fun W hW =>
    (new1 (B := w.heap.size) (w := W) M (by omega) hW.size).mono fun e w' ⟨q1, q2, q3⟩ => ⟨q1, q2, hW.trans (q3.mono hW.size)⟩
  have B0 : Aside (Below w.heap.size w w) := Below.refl _ _
  have hrb1 := hr.1
  have hrb2 := hr.2
  clear hr
  go_enter Try.func7, Try.ntmps7
  go_wp2_with (first | (go_at_call 15; with_reducible refine H0.mono ?_; rintro e w0 ⟨rfl, rfl⟩) | (go_at_call 13; with_reducible refine (K0 _).mono ?_; rintro e w1 ⟨rfl, b1⟩) | (go_at_call 9; with_reducible refine (N1.out _ b1).mono ?_; rintro e w2 ⟨rfl, o2, b2⟩))
  have S0 : Aside (∃ d, OneF w0.heap.size w2 w1.heap.size d [] ∧ Below w0.heap.size w0 w2 ∧ d.left = -1 ∧ d.room = M) := ⟨_, o2, b2, rfl, rfl⟩
  clear o2 b1 b2 N1 H0 K0 B0
  generalize w1.heap.size = k1 at S0 ⊢
  go_loopg [6] n (fun g1 vi wr => ∃ (k : Nat), vi = .int .i64 k ∧ k ≤ n ∧ n - k ≤ g1 ∧ Aside (∃ d, OneF w0.heap.size wr k1 d [] ∧ Below w0.heap.size w0 wr ∧ d.left = -1 ∧ d.room = M))
  case atStart => exact ⟨0, rfl, Nat.zero_le _, Nat.le_refl _, S0.out⟩
  case round =>
    clear S0
    obtain ⟨k, rfl, hk, hg1, SK⟩ := hrel
    by_cases hlt : k < n
    · have hltz : (k : Int) < (n : Int) := by omega
      have hkl : k < os.length := by rw [H.out.2.1]; exact hlt
      obtain ⟨d, hT, hbl, hd1, hd2⟩ := SK.out
      obtain ⟨b, off, ha, hc⟩ := H.out.1.get hkl
      subst ha
      obtain ⟨⟨-, r1', -⟩, ho⟩ := hc k hkl
      clear hc SK
      have L1 := cell_lt r1'
      have hy5 : (oqn os k).l.length ≤ 5000 := Nat.le_trans (tot_get hkl) H.out.2.2
      have hp5 : d.b.length ≤ 500 := by have := hT.fit.len; omega
      have RB : Aside (∀ W, Below w0.heap.size w0 W → W.cell? ⟨b, off + k * 3 + 1, none⟩ = some (.slice (oqn os k).a (oqn os k).l.length (oqn os k).c) ∧ Sl W (oqn os k).a (oqn os k).l.length (oqn os k).c (oqn os k).l) := fun W hW => ⟨(hW.cell (p := ⟨b, off + k * 3 + 1, none⟩) L1).trans r1', (ho.keep hW).sl⟩
      clear L1 r1' ho
      generalize hyl : (oqn os k).l = y at RB hy5
      generalize (oqn os k).a = la at RB
      generalize (oqn os k).c = lc at RB
      clear hyl
      obtain ⟨yl, hyl⟩ : ∃ yl, y.length = yl := ⟨_, rfl⟩
      rw [hyl] at RB hy5
      have HY : Hid (y.length = yl) := hyl
      obtain ⟨p, hp⟩ : ∃ p, d.b.length = p := ⟨_, rfl⟩
      have HP : Hid (d.b.length = p) := hp
      rw [hp] at hp5
      have RD : Aside (∀ W us q dd, OneF w0.heap.size W k1 dd us → dd.b.length = q → Below w0.heap.size w0 W → Calls Try.prog 14 #[.pointer (some ⟨k1, 0, none⟩)] W fun e w' => ∃ a c, e = .returned (.slice a q c) ∧ OneF w0.heap.size w' k1 dd ((.slice a q c, dd.b) :: us) ∧ Below w0.heap.size w0 w') := fun W us q dd h hq hb => by
        subst hq
        exact (read1 h).mono fun e w' ⟨a, c, q1, q2, q3, q4⟩ => ⟨a, c, q1, q2, hb.trans (q3.mono hb.size)⟩
      have hrd := RD.out wr [] p d hT hp hbl
      clear hyl hp
      go_upto_region 10 with (go_at_call 14; with_reducible refine hrd.mono ?_; rintro e w3 ⟨a3, c3, rfl, o3, b3⟩)
      clear hrd hT hbl
      obtain ⟨r1, hsl⟩ := RB.out w3 b3
      have hap := app1 o3 hsl
      clear hsl
      rcases app_parts hd1 y with ⟨d', he, hd'b, hd'l, hd'r⟩ | ⟨d', he, hd'b, hd'l, hd'r⟩
      · rw [he] at hap
        have hq : d'.b.length = p + yl := by rw [hd'b, List.length_append, HP.out, HY.out]
        go_upto_region 11 with (go_at_call 12; with_reducible refine hap.mono ?_; rintro e w4 ⟨rfl, o4, b4'⟩)
        have b4 := b3.trans b4'
        have hrd := RD.out w4 _ _ d' o4 hq b4
        clear hap o3 b3 b4' r1
        have hqM : p + yl ≤ M := by have := o4.fit.len; omega
        go_upto_region 12 with (go_at_call 14; with_reducible refine hrd.mono ?_; rintro e w5 ⟨a5, c5, rfl, o5, b5⟩)
        clear hrd o4 b4
        obtain ⟨r1, hsl⟩ := RB.out w5 b5
        have hcw := fun j => Bs.str ((o5.row (u := .slice a3 p c3) (l := d.b) (by simp)).keep (below_dn _ w5 j)) HP.out
        have hcn := fun j => Bs.str ((o5.row (u := .slice a5 (p + yl) c5) (l := d'.b) (by simp)).keep (below_dn _ w5 j)) hq
        have hcy := fun j => str_of (hsl.keep (below_dn _ w5 j)).at_.mem yl lc HY.out
        rw [hd'b] at hcn
        have hadd : ∀ W, (Op.stringOp .add ⟨d.b.toArray⟩ ⟨y.toArray⟩).run Try.prog W = .ok (.string ⟨(d.b ++ y).toArray⟩) W := fun W => run_string_add_lists W _ _ (by have := HP.out; omega) (by have := HY.out; omega)
        have hdM : decide ((M : Int) < ((p + yl : Nat) : Int)) = false := decide_eq_false (by omega)
        have hdM2 : decide (M < p + yl) = false := decide_eq_false (by omega)
        have SQ : Aside (∀ j, ∃ d', OneF w0.heap.size (w5.drewN j) k1 d' [(.slice a5 (p + yl) c5, d'.b)] ∧ Below w0.heap.size w0 (w5.drewN j) ∧ d'.left = -1 ∧ d'.room = M ∧ d'.b.length = p + yl) := fun j => ⟨d', (o5.keep (below_dn _ w5 j)).less (by intro u hu; simp at hu; subst hu; simp), b5.trans (below_dn _ w5 j), hd'l, by rw [hd'r]; exact hd2, hq⟩
        clear hsl o5 b5 he hd'l hd'r hd1 hd2
        clear hq hd'b
        generalize d.b = lb at *
        generalize lb ++ y = lx at *
        generalize p + yl = q at *
        go_upto_region 12 with fail
        go_quiet (fail)
        have SL : Aside _ := SQ.out nq
        generalize w5.drewN nq = w6 at SL ⊢
        clear hcw hcn hcy SQ r1 RB RD hadd
        go_wp2_with fail
        go_loopg [10] q (fun g2 vk wr => ∃ (j : Nat), vk = .int .i64 j ∧ j ≤ q ∧ q - j ≤ g2 ∧ Aside (∃ d' l', OneF w0.heap.size wr k1 d' [(.slice a5 q c5, l')] ∧ Below w0.heap.size w0 wr ∧ d'.left = -1 ∧ d'.room = M ∧ l'.length = q))
        case atStart =>
          refine ⟨0, rfl, Nat.zero_le _, Nat.le_refl _, ?_⟩
          obtain ⟨d', s1, s2, s3, s4, s5⟩ := SL.out
          exact ⟨d', _, s1, s2, s3, s4, s5⟩
        case round =>
          clear SL
          obtain ⟨j, rfl, hj, hg2, SJ⟩ := hrel
          by_cases hlt2 : j < q
          · have hltz2 : (j : Int) < (q : Int) := by omega
            obtain ⟨d', l', s1, s2, s3, s4, s5⟩ := SJ.out
            obtain ⟨g, cc, e, ho⟩ := (s1.row (u := .slice a5 q c5) (l := l') (by simp)).form1 (by omega)
            injection e with e1 e2 e3
            subst e1 e3
            have q1 := ho.cell j (by omega)
            have z1 := ho.frz j
            have S8 : Aside (∃ d' l', OneF w0.heap.size (wr.setCell ⟨g, j, none⟩ (.int .u8 255)) k1 d' [(.slice (some ⟨g, 0, none⟩) q c5, l')] ∧ Below w0.heap.size w0 (wr.setCell ⟨g, j, none⟩ (.int .u8 255)) ∧ d'.left = -1 ∧ d'.room = M ∧ l'.length = q) := by
              obtain ⟨t1, t2⟩ := s1.write (j := j) s5 255
              exact ⟨d', l'.set j 255, t1, s2.trans t2, s3, s4, by rw [List.length_set]; exact s5⟩
            clear SJ s1 s2 ho e2
            go_wp2
            go_roundg (q - (j + 1))
            case measure => omega
            case rel => exact ⟨j + 1, by go_num, by omega, by omega, S8⟩
          · have hltz2 : ¬ (j : Int) < (q : Int) := by omega
            have S8 : Aside (∃ d, OneF w0.heap.size wr k1 d [] ∧ Below w0.heap.size w0 wr ∧ d.left = -1 ∧ d.room = M) := by
              obtain ⟨d', l', s1, s2, s3, s4, s5⟩ := SJ.out
              exact ⟨d', s1.less (by intro u hu; simp at hu), s2, s3, s4⟩
            clear SJ
            go_wp2
            go_roundg (n - (k + 1))
            case measure => omega
            case rel => exact ⟨k + 1, by go_num, by omega, by omega, S8⟩
      · rw [he] at hap
        have hq : d'.b.length = p := by rw [hd'b, HP.out]
        go_upto_region 11 with (go_at_call 12; with_reducible refine hap.mono ?_; rintro e w4 ⟨rfl, o4, b4'⟩)
        have b4 := b3.trans b4'
        have hrd := RD.out w4 _ _ d' o4 hq b4
        clear hap o3 b3 b4' r1
        have hqM : p ≤ M := by have := o4.fit.len; omega
        go_upto_region 12 with (go_at_call 14; with_reducible refine hrd.mono ?_; rintro e w5 ⟨a5, c5, rfl, o5, b5⟩)
        clear hrd o4 b4
        obtain ⟨r1, hsl⟩ := RB.out w5 b5
        have hcw := fun j => Bs.str ((o5.row (u := .slice a3 p c3) (l := d.b) (by simp)).keep (below_dn _ w5 j)) HP.out
        have hcn := fun j => Bs.str ((o5.row (u := .slice a5 (p) c5) (l := d'.b) (by simp)).keep (below_dn _ w5 j)) hq
        have hcy := fun j => str_of (hsl.keep (below_dn _ w5 j)).at_.mem yl lc HY.out
        rw [hd'b] at hcn
        have hdM : decide ((M : Int) < ((p : Nat) : Int)) = false := decide_eq_false (by omega)
        have hdM2 : decide (M < p) = false := decide_eq_false (by omega)
        have SQ : Aside (∀ j, ∃ d', OneF w0.heap.size (w5.drewN j) k1 d' [(.slice a5 (p) c5, d'.b)] ∧ Below w0.heap.size w0 (w5.drewN j) ∧ d'.left = -1 ∧ d'.room = M ∧ d'.b.length = p) := fun j => ⟨d', (o5.keep (below_dn _ w5 j)).less (by intro u hu; simp at hu; subst hu; simp), b5.trans (below_dn _ w5 j), hd'l, by rw [hd'r]; exact hd2, hq⟩
        clear hsl o5 b5 he hd'l hd'r hd1 hd2
        clear hq hd'b
        generalize d.b = lb at *
        go_upto_region 12 with fail
        go_quiet (fail)
        have SL : Aside _ := SQ.out nq
        generalize w5.drewN nq = w6 at SL ⊢
        clear hcw hcn hcy SQ r1 RB RD
        go_wp2_with fail
        go_loopg [10] p (fun g2 vk wr => ∃ (j : Nat), vk = .int .i64 j ∧ j ≤ p ∧ p - j ≤ g2 ∧ Aside (∃ d' l', OneF w0.heap.size wr k1 d' [(.slice a5 p c5, l')] ∧ Below w0.heap.size w0 wr ∧ d'.left = -1 ∧ d'.room = M ∧ l'.length = p))
        case atStart =>
          refine ⟨0, rfl, Nat.zero_le _, Nat.le_refl _, ?_⟩
          obtain ⟨d', s1, s2, s3, s4, s5⟩ := SL.out
          exact ⟨d', _, s1, s2, s3, s4, s5⟩
        case round =>
          clear SL
          obtain ⟨j, rfl, hj, hg2, SJ⟩ := hrel
          by_cases hlt2 : j < p
          · have hltz2 : (j : Int) < (p : Int) := by omega
            obtain ⟨d', l', s1, s2, s3, s4, s5⟩ := SJ.out
            obtain ⟨g, cc, e, ho⟩ := (s1.row (u := .slice a5 p c5) (l := l') (by simp)).form1 (by omega)
            injection e with e1 e2 e3
            subst e1 e3
            have q1 := ho.cell j (by omega)
            have z1 := ho.frz j
            have S8 : Aside (∃ d' l', OneF w0.heap.size (wr.setCell ⟨g, j, none⟩ (.int .u8 255)) k1 d' [(.slice (some ⟨g, 0, none⟩) p c5, l')] ∧ Below w0.heap.size w0 (wr.setCell ⟨g, j, none⟩ (.int .u8 255)) ∧ d'.left = -1 ∧ d'.room = M ∧ l'.length = p) := by
              obtain ⟨t1, t2⟩ := s1.write (j := j) s5 255
              exact ⟨d', l'.set j 255, t1, s2.trans t2, s3, s4, by rw [List.length_set]; exact s5⟩
            clear SJ s1 s2 ho e2
            go_wp2
            go_roundg (p - (j + 1))
            case measure => omega
            case rel => exact ⟨j + 1, by go_num, by omega, by omega, S8⟩
          · have hltz2 : ¬ (j : Int) < (p : Int) := by omega
            have S8 : Aside (∃ d, OneF w0.heap.size wr k1 d [] ∧ Below w0.heap.size w0 wr ∧ d.left = -1 ∧ d.room = M) := by
              obtain ⟨d', l', s1, s2, s3, s4, s5⟩ := SJ.out
              exact ⟨d', s1.less (by intro u hu; simp at hu), s2, s3, s4⟩
            clear SJ
            go_wp2
            go_roundg (n - (k + 1))
            case measure => omega
            case rel => exact ⟨k + 1, by go_num, by omega, by omega, S8⟩
    · have hltz : ¬ (k : Int) < (n : Int) := by omega
      obtain ⟨d, hT, hbl, -, -⟩ := SK.out
      clear SK hT
      go_wp2
      go_ret
      exact ⟨rfl, hbl⟩
end Go.Proofs.Ytpaekckahapngaa.disk
