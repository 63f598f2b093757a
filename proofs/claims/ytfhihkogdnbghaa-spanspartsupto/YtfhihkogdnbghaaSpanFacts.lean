/-
  Facts of a call's own, with keys of its own; the contracts of slices.Clone of numbers and of the chapter's copy of facts.
-/
import Derived.Test.YtfhihkogdnbghaaSpanApp
import Derived.Lib.SliceRun
namespace Go.Proofs.Ytfhihkogdnbghaa.spans
open Go.ChangeShapes Go.WideShapes Go.ChangeAt Go.RowKit Go.Deep
open Go.Proofs.Ytfhihkogdnbghaa.bytes (ret_bool hid nth addr_add cell_lt own_below own_mono own_kind own_grown)
set_option linter.unusedVariables false
set_option maxRecDepth 100000
set_option linter.unusedSimpArgs false

def keyV (f : Ft) : Value := .slice f.a f.k.length f.cap
structure FsOwn (B : Nat) (w : World) (v : Value) (gs : List Ft) : Prop where
  own : Fo B w v gs
  keys : ∀ f ∈ gs, IntsOwn B w (keyV f) f.k
theorem FsOwn.nil (B : Nat) (w : World) : FsOwn B w (.slice none 0 0) [] := ⟨Fo.nil B w, fun f hf => by cases hf⟩
theorem FsOwn.keep {B : Nat} {w w' : World} {v : Value} {gs : List Ft} (h : FsOwn B w v gs) (hb : Below w.heap.size w w') : FsOwn B w' v gs := ⟨h.own.keep hb, fun f hf => (h.keys f hf).keep hb⟩
theorem FsOwn.push {B : Nat} {W W' : World} {v v' : Value} {gs : List Ft} {f : Ft} (h : FsOwn B W v gs) (hk : IntsOwn B W (keyV f) f.k) (ho : Fo B W' v' (gs ++ [f])) (hg : W.grownBy W' v.ownBlock) : FsOwn B W' v' (gs ++ [f]) := by
  have hne : ∀ g : Ft, IntsOwn B W (keyV g) g.k → IntsOwn B W' (keyV g) g.k := fun g hg2 => own_grown hg2 hg (own_kind hg2 h.own (by decide))
  refine ⟨ho, fun g hgm => ?_⟩
  rcases List.mem_append.1 hgm with hgm | hgm
  · exact hne g (h.keys g hgm)
  · rw [List.mem_singleton.1 hgm]; exact hne f hk
theorem FsOwn.out {B : Nat} {w : World} {v : Value} {gs : List Ft} (h : FsOwn B w v gs) (hl : ∀ f ∈ gs, f.k.length * 8 ≤ 140737488355328) : ∃ a c, v = .slice a gs.length c ∧ FactsIn w a gs ∧ gs.length ≤ c ∧ c ≤ maxLen :=
  h.own.out fun f hf => by
    obtain ⟨a, c, e, hI, hc⟩ := ints_out (h.keys f hf)
    unfold keyV at e
    injection e with e1 e2 e3
    exact ⟨by rw [e1]; exact hI, hl f hf, by rw [e3]; exact hc⟩
theorem pf_len {gs fs : List Ft} (h : gs.map pf = fs.map pf) {m : Nat} (hl : ∀ f ∈ fs, f.k.length * 8 ≤ m) : ∀ f ∈ gs, f.k.length * 8 ≤ m := fun f hf => by
  have : pf f ∈ fs.map pf := by rw [← h]; exact List.mem_map.2 ⟨f, hf, rfl⟩
  obtain ⟨g, hg, e⟩ := List.mem_map.1 this
  have e1 : g.k = f.k := congrArg Prod.fst e
  rw [← e1]; exact hl g hg
theorem FactsIn.all {w : World} {a : Option Addr} {fs : List Ft} (h : FactsIn w a fs) : ∀ f ∈ fs, FtOk w f := fun f hf => by
  obtain ⟨i, hi, rfl⟩ := List.mem_iff_getElem.1 hf
  obtain ⟨b, off, -, hc⟩ := h.get hi
  rw [← ftn_eq hi]; exact (hc i hi).2.2
/-- facts in new memory -/
def FsOut (w : World) (ps : List (List Int × Int)) (e : Ending) (w' : World) : Prop := ∃ a n c gs, e = .returned (.slice a n c) ∧ n = gs.length ∧ gs.map pf = ps ∧ FactsIn w' a gs ∧ n ≤ c ∧ Below w.heap.size w w'

set_option maxHeartbeats 4000000 in
theorem clone_any (w : World) (a : Option Addr) (l : List Int) (n c : Nat) (hI : Ints w a l) (hn : l.length = n) (h0 : 0 < n) (h8 : n * 8 ≤ 140737488355328) :
    Calls Try.prog 42 #[.slice a n c] w fun e w' => ∃ g c', e = .returned (.slice (some ⟨g, 0, none⟩) n c') ∧ IntsOwn w.heap.size w' (.slice (some ⟨g, 0, none⟩) n c') l ∧ Below w.heap.size w w' := by
  obtain ⟨b, off, ha, -⟩ := hI.get (k := 0) (by omega)
  subst ha
  have H : Aside (Ints w (some ⟨b, off, none⟩) l ∧ l.length = n) := ⟨hI, hn⟩
  clear hI hn
  have HO : Aside (IntsOwn w.heap.size (w.alloc (.cells #[] 3)) (.slice (some ⟨w.heap.size, 0, none⟩) 0 0) []) := World.ownsRow_lit (size := 1) w #[] 0 (Nat.le_refl _) (Nat.zero_le _) rfl
  have qe : ∀ (w : World) (a : Option Addr) (n c n' c' : Nat), (binOp .eql 31 (.slice a n c) (.slice none n' c')).run Try.prog w = .ok (.bool a.isNone) w := fun w a n c n' c' => Lib.run_eql_slice_nil w _ _ a n c n' c' Try.underlying31
  go_enter Try.func42, Try.ntmps42
  go_wp2_with (at_builtin; refine wpList_ints rfl (.tmp 5) (.tmp 6) rfl w.heap.size _ [] rfl HO.out (some ⟨b, off, none⟩) n c l rfl (H.out.1.keep ((Below.refl _ _).alloc (Nat.le_refl _) _)) H.out.2 n (by simp) h8 (by simp) ?_; intro a3 c3 w3 hown3 hg3; refine Hid.out ?_)
  refine hid ?_
  have hb : Below w.heap.size w w3 := ((Below.refl _ w).alloc (Nat.le_refl _) (.cells #[] 3)).trans (own_bel HO.out hg3 (Nat.le_refl _) (by simp))
  rw [List.nil_append] at hown3
  obtain ⟨g, hg⟩ : ∃ g, a3 = some ⟨g, 0, none⟩ := by
    rcases hown3.2 with ⟨hv, e⟩ | ⟨g, cap, cur, hv, _⟩
    · rw [H.out.2] at e; omega
    · injection hv with h1; exact ⟨g, h1⟩
  subst hg
  have HR : Aside (_ ∧ _) := ⟨hown3, hb⟩
  clear hown3 hb hg3
  go_wp2
  go_ret
  exact ⟨g, c3, rfl, HR.out.1, HR.out.2⟩

set_option maxRecDepth 100000 in
set_option maxHeartbeats 4000000 in
theorem copy_any (w : World) (a : Option Addr) (fs : List Ft) (n c : Nat) (hF : FactsIn w a fs) (hn : fs.length = n) (hm : n ≤ 1000000) :
    Calls Try.prog 43 #[.slice a n c] w (FsOut w (fs.map pf)) := by
  have H : Aside (FactsIn w a fs ∧ fs.length = n) := ⟨hF, hn⟩
  clear hF hn
  go_enter Try.func43, Try.ntmps43
  go_wp2_with fail
  go_loopg [3, 4, 5] n (fun g1 v3 vi v5 wr => ∃ (k : Nat), vi = .int .i64 k ∧ k ≤ n ∧ n - k ≤ g1 ∧ Aside (∃ gs, FsOwn w.heap.size wr v3 gs ∧ gs.map pf = (fs.take k).map pf ∧ Below w.heap.size w wr))
  case atStart => exact ⟨0, rfl, Nat.zero_le _, Nat.le_refl _, [], FsOwn.nil _ _, rfl, Below.refl _ _⟩
  case round =>
    obtain ⟨k, rfl, hk, hg1, SK⟩ := hrel
    obtain ⟨gs, hO, hpf, hb⟩ := SK.out
    clear SK
    have hgl : gs.length = k := by
      have := congrArg List.length hpf
      rw [List.length_map, List.length_map, List.length_take, H.out.2] at this
      omega
    have SK : Aside (FsOwn w.heap.size wr u3 gs ∧ gs.map pf = (fs.take k).map pf ∧ Below w.heap.size w wr ∧ gs.length = k) := ⟨hO, hpf, hb, hgl⟩
    clear hO hpf hb hgl
    by_cases hlt : k < n
    · have hltz : (k : Int) < (n : Int) := by omega
      have hkl : k < fs.length := by rw [H.out.2]; exact hlt
      obtain ⟨b, off, ha, hc⟩ := (H.out.1.keep SK.out.2.2.1).get hkl
      subst ha
      obtain ⟨r0, r1, hok⟩ := hc k hkl
      clear hc
      have HT : Aside ((fs.take (k + 1)).map pf = (fs.take k).map pf ++ [((ftn fs k).k, (ftn fs k).v)]) := by
        rw [take_ftn fs k hkl, List.map_append]; rfl
      obtain ⟨f, hf⟩ : ∃ f, ftn fs k = f := ⟨_, rfl⟩
      rw [hf] at r0 r1 hok HT
      have HK : Aside (FtOk wr f) := hok
      clear hok hf
      obtain ⟨fn, hfn⟩ : ∃ fn, f.k.length = fn := ⟨_, rfl⟩
      have HFN : Hid (f.k.length = fn) := hfn
      rw [hfn] at r0
      clear hfn
      go_wp2_with (at_builtin; refine wpList_ints rfl (.tmp 12) (.tmp 17) rfl w.heap.size _ [] rfl (IntsOwn.nil _ _) f.a fn f.cap f.k rfl HK.out.mem HFN.out fn (by simp) (by rw [← HFN.out]; exact HK.out.len) SK.out.2.2.1.size ?_; intro a3 c3 w3 hown3 hg3; refine Hid.out ?_)
      refine hid ?_
      rw [List.nil_append] at hown3
      have hb3 : Below wr.heap.size wr w3 := ⟨hg3.os, hg3.tape, hg3.output, hg3.size, fun i hi => hg3.block i hi (by intro e; cases e)⟩
      have q1 := (hb3.cell (p := ⟨b, off + k * 2 + 1, none⟩) (cell_lt r1)).trans r1
      have SK3 : Aside (FsOwn w.heap.size w3 u3 gs ∧ Below w.heap.size w w3 ∧ IntsOwn w.heap.size w3 (.slice a3 fn c3) f.k ∧ w.heap.size ≤ w3.heap.size) := ⟨SK.out.1.keep hb3, SK.out.2.2.1.trans (hb3.mono SK.out.2.2.1.size), hown3, (SK.out.2.2.1.trans (hb3.mono SK.out.2.2.1.size)).size⟩
      have hkz : k + 1 ≤ 100000000 := by omega
      clear hb3 hown3 hg3 HK r0 r1
      obtain ⟨fv, hfv⟩ : ∃ fv, f.v = fv := ⟨_, rfl⟩
      have HFV : Hid (f.v = fv) := hfv
      rw [hfv] at q1
      clear hfv
      go_wp2_with (at_builtin; refine wpList_fact rfl (.tmp 19) (.tmp 27) rfl w.heap.size u3 gs rfl (SK3.out.1.own.keep ((Below.refl _ _).alloc (Nat.le_refl _) _)) w3.heap.size ⟨a3, c3, f.k, fv⟩ rfl (by show _ = some (Value.slice a3 f.k.length c3); rw [HFN.out]; simp [go_sem]) (by simp [go_sem]) (k + 1) (by rw [SK.out.2.2.2]) hkz (by simp; have := SK3.out.2.2.2; omega) ?_; intro a4 c4 w4 hown4 hg4; refine Hid.out ?_)
      refine hid ?_
      have S5 : Aside (∃ gs', FsOwn w.heap.size w4 (.slice a4 (k + 1) c4) gs' ∧ gs'.map pf = (fs.take (k + 1)).map pf ∧ Below w.heap.size w w4) := by
        have ka := (Below.refl _ w3).alloc (Nat.le_refl _) (.cells #[.slice a3 fn c3, .int .i64 fv] 56)
        refine ⟨gs ++ [⟨a3, c3, f.k, fv⟩], (SK3.out.1.keep ka).push ?_ hown4 hg4, ?_, ?_⟩
        · show IntsOwn _ _ (.slice a3 f.k.length c3) f.k
          rw [HFN.out]; exact SK3.out.2.2.1.keep ka
        · rw [List.map_append, SK.out.2.1, HT.out, HFV.out]; rfl
        · have k2 := SK3.out.2.1.trans (ka.mono SK3.out.2.2.2)
          exact k2.trans (own_bel (SK3.out.1.keep ka).own hg4 (Nat.le_refl _) k2.size)
      clear hown4 hg4 SK3
      go_wp2
      go_roundg (n - (k + 1))
      case measure => omega
      case rel => exact ⟨k + 1, by go_num, by omega, by omega, S5.out⟩
    · have hltz : ¬ (k : Int) < (n : Int) := by omega
      have E : Aside (FsOut w (fs.map pf) (.returned u3) wr) := by
        have e : fs.take k = fs := List.take_of_length_le (by rw [H.out.2]; omega)
        have hp := SK.out.2.1
        rw [e] at hp
        obtain ⟨a2, c2, e2, hF2, hc2, _⟩ := SK.out.1.out (pf_len hp fun f hf => (H.out.1.all f hf).len)
        subst e2
        exact ⟨a2, _, c2, gs, rfl, rfl, hp, hF2, hc2, SK.out.2.2.1⟩
      go_wp2
      go_ret
      exact E.out
end Go.Proofs.Ytfhihkogdnbghaa.spans
