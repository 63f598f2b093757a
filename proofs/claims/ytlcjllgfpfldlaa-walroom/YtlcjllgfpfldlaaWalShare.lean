/-
 What the walks of the statements over a log share.
-/
import Derived.Test.YtlcjllgfpfldlaaWalJ46K
import Derived.Test.YtlcjllgfpfldlaaWalJ47K
namespace Go.Proofs.Ytlcjllgfpfldlaa.wal
open Go.ChangeShapes Go.WideShapes Go.ChangeAt Go.RowKit Go.Deep
open Go.Proofs.Ytlcjllgfpfldlaa.code (Rc PRec pr rcC rcV RecIn OwnIn sndRec recB dec dec_recB Far far_row I64)
open Go.Proofs.Ytlcjllgfpfldlaa.bytes
open Go.Proofs.Ytlcjllgfpfldlaa.disk
open Go.Proofs.Ytlcjllgfpfldlaa.frame (scanB rowsB wrapB wrapB_len)
set_option linter.unusedVariables false
set_option maxRecDepth 100000
set_option linter.unusedSimpArgs false

theorem RsOwn.at_ {B n c : Nat} {W : World} {a : Option Addr} {rs : List Rc} (h : RsOwn B W (.slice a n c) rs) : n = rs.length ∧ RsIn W a rs := by
 obtain ⟨a2, c2, e, -, -, hi⟩ := h.rsIn
 injection e with e1 e2 e3
 subst e1
 exact ⟨e2, hi⟩
theorem snd_all {rs : List Rc} {xs : List PRec} (h : rs.map pr = xs) (h2 : ∀ x ∈ xs, sndRec x = true) : ∀ r ∈ rs, sndRec (pr r) = true := fun r hr => h2 _ (by rw [← h]; exact List.mem_map_of_mem hr)
theorem snd_enc {xs : List PRec} (h : ∀ x ∈ xs, encN x = 0) : ∀ x ∈ xs, sndRec x = true := fun x hx => (encN_ok (h x hx)).1
theorem wp_at {W : World} {a : Option Addr} {os : List Wop} (h : OpsIn W a os) {k : Nat} (hk : k < os.length) : ∃ b off, a = some ⟨b, off, none⟩ ∧ (∀ j x, (wpL (wopn os k))[j]? = some x → W.cell? ⟨b, off + k * 13 + j, none⟩ = some x) ∧ WopOk W (wopn os k) := by
 obtain ⟨b, off, ha, hc⟩ := h.get hk
 exact ⟨b, off, ha, (hc k hk).1, (hc k hk).2⟩
theorem wps_at {W : World} {b off k : Nat} {o : Wop} (h : ∀ j x, (wpL o)[j]? = some x → W.cell? ⟨b, off + k * 13 + j, none⟩ = some x) : W.cell? ⟨b, off + k * 13, none⟩ = some (.int .u8 o.q) ∧ W.cell? ⟨b, off + k * 13 + 1, none⟩ = some (.int .u8 o.r.kind) ∧ W.cell? ⟨b, off + k * 13 + 2, none⟩ = some (.int .u32 o.r.id) ∧ W.cell? ⟨b, off + k * 13 + 3, none⟩ = some (.int .u32 o.r.at_) ∧ W.cell? ⟨b, off + k * 13 + 4, none⟩ = some (.slice o.r.na o.r.nodes.length o.r.nc) ∧ W.cell? ⟨b, off + k * 13 + 5, none⟩ = some (.slice o.r.fa o.r.facts.length o.r.fc) ∧ W.cell? ⟨b, off + k * 13 + 6, none⟩ = some (.int .u32 o.r.epoch) ∧ W.cell? ⟨b, off + k * 13 + 7, none⟩ = some (.slice o.r.sa o.r.spans.length o.r.sc) ∧ W.cell? ⟨b, off + k * 13 + 8, none⟩ = some (.int .i64 o.r.frm) ∧ W.cell? ⟨b, off + k * 13 + 9, none⟩ = some (.int .i64 o.r.til) ∧ W.cell? ⟨b, off + k * 13 + 10, none⟩ = some (.slice o.r.ea o.r.ents.length o.r.ec) ∧ W.cell? ⟨b, off + k * 13 + 11, none⟩ = some (.int .u8 o.wh) ∧ W.cell? ⟨b, off + k * 13 + 12, none⟩ = some (.int .i64 o.n) :=
 ⟨h 0 _ rfl, h 1 _ rfl, h 2 _ rfl, h 3 _ rfl, h 4 _ rfl, h 5 _ rfl, h 6 _ rfl, h 7 _ rfl, h 8 _ rfl, h 9 _ rfl, h 10 _ rfl, h 11 _ rfl, h 12 _ rfl⟩
theorem read_str {B k : Nat} {P : World → Dk → Prop} (hD : Dsk B k P) (w : World) (d : Dk) (hp : P w d) (l : List UInt8) (hl : d.b = l) : Calls Try.prog 10 #[.pointer (some ⟨k, 0, none⟩)] w fun e w' => ∃ v, e = .returned v ∧ (∀ q, (convert 33 9 v).run Try.prog (w'.drewN q) = .ok (.string ⟨l.toArray⟩) (w'.drewN q)) ∧ (convert 33 9 v).run Try.prog w' = .ok (.string ⟨l.toArray⟩) w' ∧ Below w.heap.size w w' := by
 subst hl
 refine (hD.hRead w d hp).mono fun e w' ⟨a, c, he, hS, hb⟩ => ⟨_, he, fun q => ?_, str_of hS.at_.mem _ _ hS.at_.len, hb⟩
 exact str_of (show ByIn (w'.drewN q) a d.b from hS.at_.mem) _ _ hS.at_.len
theorem open_crash {d : Dk} (hf : Fit d) (keep : Int) : openD dec (crash keep d) = ((openD dec (crash keep d)).1, 0) := by
 have h := (hf.crash keep).lasts
 exact Prod.ext rfl (by rw [open_free rfl h])
theorem box_grow {w w' : World} {b : Nat} {cs : Array Value} {t : TypeId} {row : Option Nat} (h : bytes.Boxed w b cs t) (hg : w.grownBy w' row) (hf : Far w row t) : bytes.Boxed w' b cs t := by
 have hb : w.heap[b]? = _ := h
 have hne : some b ≠ row := fun e => hf b _ _ _ e.symm hb rfl
 exact (hg.block b h.lt hne).trans hb
theorem force_free {rs : List PRec} {d : Dk} (h : LogIs recB rs d) (hl : d.left = -1) (x : PRec) :
  ((forceR x d).2 = 0 ∧ encN x = 0 ∧ LogIs recB (rs ++ [x]) (forceR x d).1 ∧ (forceR x d).1.left = -1) ∨ ((forceR x d).2 ≠ 0 ∧ LogIs recB rs (forceR x d).1 ∧ (forceR x d).1.left = -1) := by
 by_cases he : encN x = 0
 ·rw [forceR_ok he]
  rcases force_is h (by omega) x with ⟨h1, h2, -, -, h3⟩ | ⟨h1, h2, -, h3⟩ | ⟨-, -, -, -, -, h3⟩
  ·exact .inl ⟨h1, he, h2, h3 hl⟩
  ·exact .inr ⟨by omega, h2, h3 hl⟩
  ·exact absurd hl h3
 ·rw [forceR_no he]
  exact .inr ⟨he, h, hl⟩
end Go.Proofs.Ytlcjllgfpfldlaa.wal
