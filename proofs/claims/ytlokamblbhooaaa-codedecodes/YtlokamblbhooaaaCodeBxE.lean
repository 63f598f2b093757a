/-
  The chapter's reader: entries.
-/
import Derived.Test.YtlokamblbhooaaaCodeBxF
namespace Go.Proofs.Ytlokamblbhooaaa.code
open Go.ChangeShapes Go.WideShapes Go.ChangeAt Go.RowKit Go.Deep
open Go.Proofs.Ytlokamblbhooaaa.dims (nth Ints cell_lt vals vals_len vals_get vals_one vals_app own_below own_mono own_out own_apart RowOut ret_bool ret_int)
set_option linter.unusedVariables false
set_option maxRecDepth 100000
set_option linter.unusedSimpArgs false

theorem rdEnt_len (s : Rd) : (rdEnt s).2.1.length ≤ s.1.length := Nat.le_trans (rdFacts_len _) (rdGet_len 4 s)
theorem rdEnts_len (s : Rd) : (rdEnts s).2.1.length ≤ s.1.length := Nat.le_trans (rdWhile_len rdEnt_len _ _) (rdMany_len 4 8 s)
/-- entries that were read -/
def EsRes (B : Nat) (ys : List PEnt) (v : Value) (W : World) : Prop := ∃ es, EsOwn B W v es ∧ es.map pe = ys
/-- an entry in a variable while it is read -/
structure ER (R : Nat) (W1 : World) (t : Int) (a : Option Addr) (n c : Nat) (s : Rd) (W : World) : Prop where
  box : Boxed W W1.heap.size #[.int .u32 t, .slice a n c] 56
  wb : Wb R W1 W s
theorem ER.start {R : Nat} {W : World} {s : Rd} (h : BxL R W s) : ER R W 0 none 0 0 s (W.alloc (.cells #[.int .u32 0, .slice none 0 0] 56)) :=
  ⟨Boxed.new _ _ _, Wb.start h ((Below.refl _ _).alloc (Nat.le_refl _) _)⟩
theorem ER.moved {R : Nat} {W1 W W' : World} {t : Int} {a : Option Addr} {n c : Nat} {s s' : Rd} (h : ER R W1 t a n c s W) (hR : R < W1.heap.size) (g : Wb R W W' s') : ER R W1 t a n c s' W' :=
  ⟨h.box.grown g.grown (by simp only [ne_eq, Option.some.injEq]; omega), h.wb.trans g⟩
theorem ER.at_ {R : Nat} {W1 W : World} {t : Int} {a : Option Addr} {n c : Nat} {s : Rd} (h : ER R W1 t a n c s W) (hR : R < W1.heap.size) (y : Int) : ER R W1 y a n c s (W.setCell ⟨W1.heap.size, 0, none⟩ (.int .u32 y)) :=
  ⟨h.box.set 0 _, h.wb.row (grown_at _ _ _ _) (fun q hq => by injection hq with hq; omega) hR⟩
theorem ER.facts {R : Nat} {W1 W : World} {t : Int} {a a' : Option Addr} {n c n' c' : Nat} {s : Rd} (h : ER R W1 t a n c s W) (hR : R < W1.heap.size) : ER R W1 t a' n' c' s (W.setCell ⟨W1.heap.size, 1, none⟩ (.slice a' n' c')) :=
  ⟨h.box.set 1 _, h.wb.row (grown_at _ _ _ _) (fun q hq => by injection hq with hq; omega) hR⟩
theorem EsOwn.moved {B R : Nat} {W W' : World} {v : Value} {es : List Et} {s s' : Rd} (h : EsOwn B W v es) (hR : BxL R W s) (g : Wb R W W' s') : EsOwn B W' v es := h.far g.grown (hR.far (by decide)) (hR.far (by decide)) (hR.far (by decide))
theorem EsOwn.push {B : Nat} {W w3 : World} {v v3 : Value} {es : List Et} {e : Et} {o : Obj} {k : Nat} (hk : es.length = k) (h : EsOwn B W v es) (he : EtOwn B W e) (hg : (W.alloc o).grownBy w3 v.ownBlock)
    (hown : w3.ownsRow B 56 2 v3 (k + 1) (es.flatMap entC ++ entC e)) : EsOwn B w3 v3 (es ++ [e]) := by
  subst hk
  have h1 : Far (W.alloc o) v.ownBlock 3 := far_row (World.ownsRow.alloc h.own o) (by decide)
  have h2 : Far (W.alloc o) v.ownBlock 53 := far_row (World.ownsRow.alloc h.own o) (by decide)
  refine ⟨?_, fun x hx => ?_⟩
  · have e1 : (es ++ [e]).flatMap entC = es.flatMap entC ++ entC e := by simp
    rw [e1]; simpa using hown
  · rcases List.mem_append.1 hx with hx | hx
    · exact (EtOwn.far (h.all x hx) (World.grownBy_alloc _ _ none) (far_none _ _) (far_none _ _)).far hg h1 h2
    · simp only [List.mem_singleton] at hx
      subst hx
      exact (EtOwn.far he (World.grownBy_alloc _ _ none) (far_none _ _) (far_none _ _)).far hg h1 h2

set_option maxHeartbeats 16000000 in
theorem ents_rd (R B : Nat) (w : World) (s : Rd) (hB : B ≤ w.heap.size) (hR : BxL R w s) (hl : s.1.length ≤ 60000) :
    Calls Try.prog 72 #[.pointer (some ⟨R, 0, none⟩)] w fun e w' => ∃ v, e = .returned v ∧ EsRes B (rdEnts s).1 v w' ∧ Wb R w w' (rdEnts s).2 := by
  obtain ⟨j0, hj, hy0, hy1, hy2⟩ := info_parts info_ent
  have hRlt := hR.lt
  have hM := many_any R 4 8 w s hR (by omega) (by omega) (by omega) (by omega) hl
  have h2 := rdMany_len 4 8 s
  have h3 := rdMany_le 4 8 s
  unfold rdEnts
  generalize rdMany 4 8 s = g at hM h2 h3 ⊢
  obtain ⟨n, s1⟩ := g
  simp only at hM h2 h3 ⊢
  have hn6 : n ≤ 60000 := by omega
  have H : Aside (B ≤ w.heap.size ∧ s1.1.length ≤ 60000) := ⟨hB, by omega⟩
  clear hB hR h2 h3 hl
  go_enter Try.func72, Try.ntmps72
  go_wp2_with (go_at_call 71; refine hM.mono ?_; rintro e w1 ⟨rfl, hW1⟩; refine Hid.out ?_)
  refine hid ?_
  have HW1 : Aside (Wb R w w1 s1) := hW1
  clear hM hW1
  go_wp2_with fail
  go_loopg [3, 5] n (fun g1 vv vi wr => ∃ (k : Nat) (av : Option Addr) (cv : Nat), vv = .slice av k cv ∧ vi = .int .i64 k ∧ k ≤ n ∧ n - k ≤ g1 ∧ Aside (∃ (es : List Et) (sk : Rd), EsOwn w.heap.size wr (.slice av k cv) es ∧ es.length = k ∧ Wb R w wr sk ∧ sk.1.length ≤ 60000 ∧ rdWhile rdEnt n s1 = (es.map pe ++ (rdWhile rdEnt (n - k) sk).1, (rdWhile rdEnt (n - k) sk).2)))
  case atStart => exact ⟨0, none, 0, rfl, rfl, Nat.zero_le _, Nat.le_refl _, [], s1, es_nil _ _, rfl, HW1.out, H.out.2, by simp⟩
  case round =>
    obtain ⟨k, av, cv, rfl, rfl, hk, hgk, SK⟩ := hrel
    by_cases hlt : k < n
    · have hltz : (k : Int) < (n : Int) := by omega
      obtain ⟨es, sk, hx1, hx2, hx4, hx5, hx6⟩ := SK.out
      obtain ⟨aR, nR, cR, hBx⟩ := hx4.rdr
      have c1 := hBx.cell1
      clear hBx
      by_cases hbad : sk.2 = true
      · rw [hbad] at c1
        have S3 : Aside (∃ (es : List Et) (sk : Rd), EsOwn w.heap.size wr (.slice av k cv) es ∧ Wb R w wr sk ∧ rdWhile rdEnt n s1 = (es.map pe, sk)) := ⟨es, sk, hx1, hx4, rdWhile_stop hx6 (.inl hbad)⟩
        clear SK hx1 hx2 hx4 hx5 hx6 hbad
        go_wp2
        go_ret
        obtain ⟨es, sk, a1, a2, a3⟩ := S3.out
        rw [a3]
        exact ⟨_, rfl, ⟨es, a1.mono H.out.1, rfl⟩, a2⟩
      have hbad2 : sk.2 = false := by simpa using hbad
      rw [hbad2] at c1
      obtain ⟨jj, hjj⟩ : ∃ jj, n - k = jj + 1 := ⟨n - k - 1, by omega⟩
      rw [hjj] at hx6
      have hx7 := rdWhile_step hx6 hbad2
      have hflen := rdEnt_len sk
      obtain ⟨sf, hsf⟩ : ∃ sf, (rdEnt sk).2 = sf := ⟨_, rfl⟩
      obtain ⟨yf, hyf⟩ : ∃ yf, (rdEnt sk).1 = yf := ⟨_, rfl⟩
      rw [hsf, hyf] at hx7
      rw [hsf] at hflen
      generalize hWr : wr = W1 at *
      clear hWr
      have hsz : w.heap.size ≤ W1.heap.size := hx4.grown.size
      have hR1 : R < W1.heap.size := by omega
      have FcS := ER.start hx4.rdr
      have HK : Aside (EsOwn w.heap.size W1 (.slice av k cv) es ∧ es.length = k ∧ Wb R w W1 sk ∧ sf.1.length ≤ 60000 ∧ rdWhile rdEnt n s1 = ((es.map pe ++ [yf]) ++ (rdWhile rdEnt jj sf).1, (rdWhile rdEnt jj sf).2) ∧ n - k = jj + 1) := ⟨hx1, hx2, hx4, by omega, hx7, hjj⟩
      unfold rdEnt rdInt at hsf hyf
      have hG := get_any R 4 _ sk FcS.wb.rdr (by omega) (by omega)
      have hg1 := rdGet_len 4 sk
      have hg2 := rdGet_lt4 sk (k := 4) (by omega)
      generalize rdGet 4 sk = gm at hG hg1 hg2 hsf hyf
      obtain ⟨x, sg⟩ := gm
      simp only at hG hg1 hg2 hsf hyf
      have hxw : (x : Int) % 4294967296 = (x : Int) := by omega
      have hxu : Aside (U32 (x : Int)) := by show U32 _; unfold U32; omega
      have HF : Aside (((x : Int), (rdFacts sg).1) = yf ∧ (rdFacts sg).2 = sf ∧ sg.1.length ≤ 60000) := ⟨hyf, hsf, by omega⟩
      have HFS : Aside (ER R W1 0 none 0 0 sk (W1.alloc (.cells #[.int .u32 0, .slice none 0 0] 56))) := FcS
      clear SK hx1 hx2 hx4 hx5 hx6 hx7 hbad hbad2 hjj hflen hsf hyf FcS hg1
      go_wp2_with (go_at_call 68; refine hG.mono ?_; rintro e w2 ⟨rfl, hW2⟩; refine Hid.out ?_)
      refine hid ?_
      have hF2 := HFS.out.moved hR1 hW2
      have q0 := hF2.box.cell (j := 0) rfl
      have z0 := hF2.box.frz 0
      have HF3 : Aside (ER R W1 (x : Int) none 0 0 sg (w2.setCell ⟨W1.heap.size, 0, none⟩ (.int .u32 (x : Int)))) := hF2.at_ hR1 x
      clear hG hW2 hF2 HFS
      go_upto_region 8 with fail
      generalize w2.setCell ⟨W1.heap.size, 0, none⟩ (.int .u32 (x : Int)) = w3 at HF3 ⊢
      clear q0 z0 hxw
      have hC := facts_rd R w.heap.size w3 sg (Nat.le_trans hsz HF3.out.wb.grown.size) HF3.out.wb.rdr HF.out.2.2
      go_wp2_with (go_at_call 70; refine hC.mono ?_; rintro e w4 ⟨vf, rfl, hfr, hW4⟩; refine Hid.out ?_)
      refine hid ?_
      obtain ⟨os, ho1, ho2⟩ := hfr
      obtain ⟨af, cf, hvf⟩ := fs_form ho1
      subst hvf
      obtain ⟨on, hon⟩ : ∃ on, os.length = on := ⟨_, rfl⟩
      rw [hon] at ho1 ⊢
      have hF4 := HF3.out.moved hR1 hW4
      have q1 := hF4.box.cell (j := 1) rfl
      have z1 := hF4.box.frz 1
      have hF5 := hF4.facts (a' := af) (n' := on) (c' := cf) hR1
      have HF5 : Aside (ER R W1 (x : Int) af on cf (rdFacts sg).2 (w4.setCell ⟨W1.heap.size, 1, none⟩ (.slice af on cf)) ∧ FsOwn w.heap.size (w4.setCell ⟨W1.heap.size, 1, none⟩ (.slice af on cf)) (.slice af on cf) os ∧ os.map pf = (rdFacts sg).1 ∧ os.length = on) := ⟨hF5, ho1.far (grown_at _ _ _ _) (hF4.box.far (by decide)) (hF4.box.far (by decide)), ho2, hon⟩
      have HE5 : Aside (EsOwn w.heap.size (w4.setCell ⟨W1.heap.size, 1, none⟩ (.slice af on cf)) (.slice av k cv) es) := by
        have h1 := HK.out.1.moved HK.out.2.2.1.rdr hF4.wb
        have hne : some W1.heap.size ≠ (Value.slice av k cv).ownBlock := fun e => by have := (World.ownsRow.lt HK.out.1.own _ e.symm).2; omega
        refine ⟨h1.own.kept (grown_at _ _ _ _) (Or.inr fun e => hne e.symm), fun e he => (h1.all e he).far (grown_at _ _ _ _) (hF4.box.far (by decide)) (hF4.box.far (by decide))⟩
      clear hC hW4 hF4 hF5 ho1 ho2 hon HF3
      go_upto_region 9 with fail
      generalize w4.setCell ⟨W1.heap.size, 1, none⟩ (.slice af on cf) = w5 at HF5 HE5 ⊢
      clear q1 z1
      have q0 := HF5.out.1.box.cell (j := 0) rfl
      have q1 := HF5.out.1.box.cell (j := 1) rfl
      have hbz : w.heap.size ≤ w5.heap.size := Nat.le_trans hsz HF5.out.1.wb.grown.size
      have hown2 : w5.ownsRow w.heap.size 56 2 (.slice av k cv) k (es.flatMap entC) := by have h := HE5.out.own; rw [HK.out.2.1] at h; exact h
      go_wp2_with (at_builtin; refine wpList_append_lies _ rfl _ _ 28 rfl w.heap.size 56 j0 _ 2 32 Try.underlying28 hj hy0 hy1 hy2 rfl (by decide) _ k _ rfl (hown2.alloc _) ⟨w5.heap.size, 0, none⟩ 1 1 [Value.int .u32 x, Value.slice af on cf] rfl rfl (cells_two_new _ _ _ _) (by intro u hu; simp at hu; first | (rcases hu with rfl | rfl <;> rfl) | (subst hu; rfl)) (by omega) (by unfold maxLen; omega) (by omega) (by simp; omega) (w5.heap.size + 1) (by simp) ?_; intro g3 c3 w6 hown3 hgrow hat hglt)
      have S3 : Aside (∃ (es : List Et) (sk : Rd), EsOwn w.heap.size w6 (.slice (some ⟨g3, 0, none⟩) (k + 1) c3) es ∧ es.length = k + 1 ∧ Wb R w w6 sk ∧ sk.1.length ≤ 60000 ∧ rdWhile rdEnt n s1 = (es.map pe ++ (rdWhile rdEnt (n - (k + 1)) sk).1, (rdWhile rdEnt (n - (k + 1)) sk).2)) := by
        refine ⟨es ++ [⟨(x : Int), af, cf, os⟩], sf, HE5.out.push (e := ⟨(x : Int), af, cf, os⟩) HK.out.2.1 ⟨by show FsOwn _ _ (.slice af os.length cf) os; rw [HF5.out.2.2.2]; exact HF5.out.2.1, hxu.out⟩ hgrow ?_, by simp [HK.out.2.1], ?_, HK.out.2.2.2.1, ?_⟩
        · show w6.ownsRow w.heap.size 56 2 _ (k + 1) (es.flatMap entC ++ [.int .u32 (x : Int), .slice af os.length cf])
          rw [HF5.out.2.2.2]; exact hown3
        · have h := HK.out.2.2.1.trans HF5.out.1.wb
          rw [HF.out.2.1] at h
          exact (h.below (by (repeat (first | with_reducible exact Below.refl _ _ | (with_reducible refine Below.drew ?_) | (with_reducible refine Below.alloc ?_ (by first | omega | (simp; done) | (simp; omega)) _) | (with_reducible refine Below.setCell ?_ (by first | exact Nat.le_refl _ | omega | (simp; done) | (simp; omega)) _)))) hRlt).row hgrow (fun q hq => (World.ownsRow.lt hown2 _ hq).1) hRlt
        · rw [show n - (k + 1) = jj by have := HK.out.2.2.2.2.2; omega, HK.out.2.2.2.2.1, ← HF.out.1, ← HF5.out.2.2.1]
          simp [pe]
      clear hown3 hgrow hat hglt hown2 q0 q1
      go_wp2
      go_roundg (n - (k + 1))
      case measure => omega
      case rel => exact ⟨k + 1, _, _, rfl, by go_num, by omega, by omega, S3⟩
    · have hltz : ¬ (k : Int) < (n : Int) := by omega
      have S3 : Aside (∃ (es : List Et) (sk : Rd), EsOwn w.heap.size wr (.slice av k cv) es ∧ Wb R w wr sk ∧ rdWhile rdEnt n s1 = (es.map pe, sk)) := by
        obtain ⟨es, sk, a1, a2, a3, a4, a5⟩ := SK.out
        exact ⟨es, sk, a1, a3, rdWhile_stop a5 (.inr (by omega))⟩
      clear SK
      go_wp2
      go_ret
      obtain ⟨es, sk, a1, a2, a3⟩ := S3.out
      rw [a3]
      exact ⟨_, rfl, ⟨es, a1.mono H.out.1, rfl⟩, a2⟩
end Go.Proofs.Ytlokamblbhooaaa.code
