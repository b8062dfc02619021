/-
  What stands under factPuts_holds: part 3.
-/
import Derived.WalkKit
import Derived.Test.YtokpabkcaofahaaGreatPp2
import Derived.Test.YtokpabkcaofahaaGreatPp1
import Derived.Deep.RegionLaw
import Derived.Deep.AppendLies
import Derived.BigFrame
namespace Go.Proofs.YtokpabkcaofahaaGreat
set_option linter.unusedSimpArgs false
set_option linter.unusedVariables false
set_option maxRecDepth 100000
set_option maxHeartbeats 20000000
section
set_option linter.unusedSectionVars false
namespace Rise
structure Ord {κ:Type}(lt:κ->κ->Bool)(G:κ->Prop):Prop where
 irrefl:∀a,lt a a=false
 asymm:∀a b,lt a b=true->lt b a=false
 trans:∀a b c,lt a b=true->lt b c=true->lt a c=true
 total:∀a b,G a->G b->a≠b->lt a b=true\/lt b a=true
theorem int_ord (G:Int->Prop):Ord (fun a b:Int=>decide (a < b)) G:=by
 constructor
 ·intro a;simp
 ·intro a b h;simp at h ⊢;omega
 ·intro a b c h1 h2;simp at h1 h2 ⊢;omega
 ·intro a b _ _ h;simp;omega
def lex {κ μ:Type} [DecidableEq κ] (lt:κ->κ->Bool)(lt2:μ->μ->Bool)(a b:κ×μ):Bool:=lt a.1 b.1 || (decide (a.1=b.1) && lt2 a.2 b.2)
theorem lex_ord {κ μ:Type} [DecidableEq κ] {lt:κ->κ->Bool} {lt2:μ->μ->Bool} {G:κ->Prop} {G2:μ->Prop}(h:Ord lt G)(h2:Ord lt2 G2):Ord (lex lt lt2) (fun x=>G x.1/\G2 x.2):=by
 constructor
 ·intro a;simp[lex,h.irrefl,h2.irrefl]
 ·rintro⟨a,a2⟩ ⟨b,b2⟩ e
  simp only[lex,Bool.or_eq_true,Bool.and_eq_true,decide_eq_true_eq]at e
  rcases e with e | ⟨rfl,e⟩
  ·have hne:¬b=a:=by rintro rfl;rw[h.irrefl]at e;cases e
   simp[lex,h.asymm _ _ e,hne]
  ·simp[lex,h.irrefl,h2.asymm _ _ e]
 ·rintro⟨a,a2⟩ ⟨b,b2⟩ ⟨c,c2⟩ e f
  simp only[lex,Bool.or_eq_true,Bool.and_eq_true,decide_eq_true_eq]at e f ⊢
  rcases e with e | ⟨rfl,e⟩
  ·rcases f with f | ⟨rfl,f⟩
   ·exact Or.inl (h.trans _ _ _ e f)
   ·exact Or.inl e
  ·rcases f with f | ⟨rfl,f⟩
   ·exact Or.inl f
   ·exact Or.inr ⟨rfl,h2.trans _ _ _ e f⟩
 ·rintro⟨a,a2⟩ ⟨b,b2⟩ ⟨ga,ga2⟩ ⟨gb,gb2⟩ hne
  simp only[lex,Bool.or_eq_true,Bool.and_eq_true,decide_eq_true_eq]
  by_cases e:a=b
  ·subst e
   rcases h2.total a2 b2 ga2 gb2 (fun e=>hne (by rw[e]))with e | e
   ·exact Or.inl (Or.inr ⟨rfl,e⟩)
   ·exact Or.inr (Or.inr ⟨rfl,e⟩)
  ·rcases h.total a b ga gb e with e | e
   ·exact Or.inl (Or.inl e)
   ·exact Or.inr (Or.inl e)
section
variable {α κ:Type} [DecidableEq κ] (key:α->κ) (lt:κ->κ->Bool)
def pre (k:κ)(l:List α):List α:=l.takeWhile fun y=>lt (key y) k
def post (k:κ)(l:List α):List α:=l.dropWhile fun y=>lt (key y) k
theorem pre_post (k:κ)(l:List α):pre key lt k l++post key lt k l=l:=List.takeWhile_append_dropWhile
def look (k:κ)(l:List α):Option α:=match post key lt k l with
 | y::_=>if key y=k then some y else none
 | []=>none
def add (x:α)(l:List α):List α:=match look key lt (key x) l with
 | some _=>l
 | none=>pre key lt (key x) l++x::post key lt (key x) l
def upd (x:α)(l:List α):List α:=match look key lt (key x) l with
 | some _=>pre key lt (key x) l++x::(post key lt (key x) l).tail
 | none=>pre key lt (key x) l++x::post key lt (key x) l
def Up (l:List α):Prop:=l.Pairwise fun a b=>lt (key a) (key b)=true
variable {key lt} {G:κ->Prop} (O:Ord lt G)
theorem pre_lt {k:κ} {l:List α}:∀y∈pre key lt k l,lt (key y) k=true:=by
 intro y hy
 unfold pre at hy
 induction l with
 | nil=>simp at hy
 | cons a l ih=>
    rw[List.takeWhile_cons]at hy
    split at hy
    ·rcases List.mem_cons.1 hy with rfl | hy
     ·assumption
     ·exact ih hy
    ·simp at hy
theorem post_head {k:κ} {l:List α} {y:α} {r:List α}(h:post key lt k l=y::r):lt (key y) k=false:=by
 unfold post at h
 have:=List.head?_dropWhile_not (fun y=>lt (key y) k) l
 rw[h]at this
 simpa using this
theorem look_some {k:κ} {l:List α} {y:α}(h:look key lt k l=some y):∃r,post key lt k l=y::r/\key y=k:=by
 unfold look at h
 split at h
 ·rename_i z r e
  split at h
  ·injection h with h;subst h;exact⟨r,e,by assumption⟩
  ·cases h
 ·cases h
theorem look_mem {k:κ} {l:List α} {y:α}(h:look key lt k l=some y):y∈l/\key y=k:=by
 obtain⟨r,e,hk⟩:=look_some h
 refine⟨?_,hk⟩
 rw[<-pre_post key lt k l,e];simp
theorem Up.post_lt {k:κ} {l:List α}(h:Up key lt l) {y:α} {r:List α}(e:post key lt k l=y::r):∀z∈r,lt (key y) (key z)=true:=by
 unfold Up at h
 rw[<-pre_post key lt k l,e]at h
 exact(List.pairwise_cons.1 (List.pairwise_append.1 h).2.1).1
include O in
theorem Up.look_of {l:List α}(h:Up key lt l) {y:α}(hy:y∈l):look key lt (key y) l=some y:=by
 have h0:=h
 rw[<-pre_post key lt (key y) l]at hy
 rcases List.mem_append.1 hy with hy | hy
 ·have:=pre_lt y hy;rw[O.irrefl]at this;cases this
 ·cases e:post key lt (key y) l with
  | nil=>rw[e]at hy;simp at hy
  | cons z r=>
     rw[e]at hy
     rcases List.mem_cons.1 hy with rfl | hy
     ·unfold look;rw[e];simp
     ·have h1:=h0.post_lt e y hy
      rw[post_head e]at h1;cases h1
include O in
theorem Up.look_none {l:List α} {k:κ}(h:Up key lt l)(hn:look key lt k l=none):∀y∈l,key y≠k:=by
 rintro y hy rfl
 rw[h.look_of O hy]at hn;cases hn
include O in
theorem post_gt {k:κ} {l:List α}(h:Up key lt l)(hG:∀y∈l,G (key y))(hk:G k)(hn:look key lt k l=none):∀z∈post key lt k l,lt k (key z)=true:=by
 intro z hz
 cases e:post key lt k l with
 | nil=>rw[e]at hz;simp at hz
 | cons y r=>
    have hne:key y≠k:=by intro e2;unfold look at hn;rw[e]at hn;simp[e2]at hn
    have hy:y∈l:=by rw[<-pre_post key lt k l,e];simp
    have hlt:lt k (key y)=true:=by
     rcases O.total k (key y) hk (hG y hy) (fun e=>hne e.symm)with h1 | h1
     ·exact h1
     ·rw[post_head e]at h1;cases h1
    rw[e]at hz
    rcases List.mem_cons.1 hz with rfl | hz
    ·exact hlt
    ·exact O.trans _ _ _ hlt (h.post_lt e z hz)
include O in
theorem Up.mid {x:α} {l:List α} {r:List α}(h:Up key lt l)(hr:r.Sublist (post key lt (key x) l))(hg:∀z∈r,lt (key x) (key z)=true):Up key lt (pre key lt (key x) l++x::r):=by
 have h0:Up key lt (pre key lt (key x) l++post key lt (key x) l):=by rw[pre_post];exact h
 have h1:=List.pairwise_append.1 h0
 refine List.pairwise_append.2 ⟨h1.1,List.pairwise_cons.2 ⟨hg,h1.2.1.sublist hr⟩,fun a ha b hb=>?_⟩
 rcases List.mem_cons.1 hb with rfl | hb
 ·exact pre_lt a ha
 ·exact h1.2.2 a ha b (hr.subset hb)
include O in
theorem add_up {x:α} {l:List α}(h:Up key lt l)(hG:∀y∈l,G (key y))(hk:G (key x)):Up key lt (add key lt x l):=by
 unfold add
 split
 ·exact h
 ·rename_i hn
  exact h.mid O (List.Sublist.refl _) (post_gt O h hG hk hn)
include O in
theorem upd_up {x:α} {l:List α}(h:Up key lt l)(hG:∀y∈l,G (key y))(hk:G (key x)):Up key lt (upd key lt x l):=by
 unfold upd
 split
 ·rename_i y hs
  obtain⟨r,e,hy⟩:=look_some hs
  refine h.mid O (List.tail_sublist _) fun z hz=>?_
  rw[e]at hz
  rw[<-hy];exact h.post_lt e z hz
 ·rename_i hn
  exact h.mid O (List.Sublist.refl _) (post_gt O h hG hk hn)
theorem add_of {x y:α} {l:List α}(h:look key lt (key x) l=some y):add key lt x l=l:=by unfold add;rw[h]
theorem mem_add {x y:α} {l:List α}(h:y∈add key lt x l):y∈l\/y=x:=by
 unfold add at h
 split at h
 ·exact Or.inl h
 ·rw[<-pre_post key lt (key x) l]
  simp only[List.mem_append,List.mem_cons]at h ⊢
  rcases h with h | h | h
  ·exact Or.inl (Or.inl h)
  ·exact Or.inr h
  ·exact Or.inl (Or.inr h)
theorem mem_add_old {x y:α} {l:List α}(h:y∈l):y∈add key lt x l:=by
 unfold add
 split
 ·exact h
 ·rw[<-pre_post key lt (key x) l]at h
  simp only[List.mem_append,List.mem_cons]at h ⊢
  rcases h with h | h
  ·exact Or.inl h
  ·exact Or.inr (Or.inr h)
theorem mem_upd {x y:α} {l:List α}(h:y∈upd key lt x l):y=x\/y∈l:=by
 unfold upd at h
 split at h
 ·rcases List.mem_append.1 h with h | h
  ·exact Or.inr (by rw[<-pre_post key lt (key x) l];simp[h])
  ·rcases List.mem_cons.1 h with h | h
   ·exact Or.inl h
   ·exact Or.inr (by rw[<-pre_post key lt (key x) l];simp[List.mem_of_mem_tail h])
 ·rcases List.mem_append.1 h with h | h
  ·exact Or.inr (by rw[<-pre_post key lt (key x) l];simp[h])
  ·rcases List.mem_cons.1 h with h | h
   ·exact Or.inl h
   ·exact Or.inr (by rw[<-pre_post key lt (key x) l];simp[h])
theorem add_length (x:α)(l:List α):l.length<=(add key lt x l).length/\(add key lt x l).length<=l.length+1:=by
 have:=congrArg List.length (pre_post key lt (key x) l)
 rw[List.length_append]at this
 unfold add
 split
 ·omega
 ·rw[List.length_append,List.length_cons];omega
theorem upd_some {x y:α} {l:List α}(h:look key lt (key x) l=some y):upd key lt x l=pre key lt (key x) l++x::(post key lt (key x) l).tail:=by unfold upd;rw[h]
theorem upd_none {x:α} {l:List α}(h:look key lt (key x) l=none):upd key lt x l=pre key lt (key x) l++x::post key lt (key x) l:=by unfold upd;rw[h]
include O in
theorem upd_same {x:α} {l:List α}(h:look key lt (key x) l=some x):upd key lt x l=l:=by
 obtain⟨r,e,_⟩:=look_some h
 rw[upd_some h,e,List.tail_cons,<-e,pre_post]
end
end Rise
end
section
namespace Fct
open Fld (zero32)
open Rise
abbrev Id:=List Int
structure Vot where
 S:Int
 PN:Int
 PO:Int
 AN:Int
 AO:Int
 B:List Int
deriving DecidableEq
structure Ste where
 born:Bool
 boot:Int
 blobs:List (Id×List Int)
 keeps:List (Int×Id)
 hints:List (Int×Int×Id)
 votes:List Vot
 decs:List (Int×List Int)
deriving DecidableEq
def Ste.none:Ste:=⟨false,0,[],[],[],[],[]⟩
def ilt (a b:Int):Bool:=decide (a < b)
def klt:Int×Id->Int×Id->Bool:=lex ilt Sha.less
def hlt:Int×Int×Id->Int×Int×Id->Bool:=lex ilt klt
def idOk (d:Id):Prop:=d.length=32/\∀n∈d,0<=n/\n<=255
theorem ilt_ord:Ord ilt (fun _=>True):=int_ord _
theorem id_ord:Ord Sha.less idOk:=⟨Sha.less_irrefl,Sha.less_asymm,Sha.less_trans,fun a b ha hb h=>Sha.less_total a b (by rw[ha.1,hb.1]) h⟩
theorem klt_ord:Ord klt (fun x=>True/\idOk x.2):=lex_ord ilt_ord id_ord
theorem hlt_ord:Ord hlt (fun x=>True/\True/\idOk x.2.2):=lex_ord ilt_ord klt_ord
abbrev bkey (x:Id×List Int):Id:=x.1
abbrev vkey (v:Vot):Int:=v.S
abbrev dkey (d:Int×List Int):Int:=d.1
def more (an ao bn bo:Int):Bool:=decide (bn < an\/bn=an/\bo < ao)
def hasB (s:Ste)(d:Id):Bool:=s.blobs.any fun x=>decide (x.1=d)
def Ste.blob (s:Ste)(f:Fac):Ste:={s with blobs:=add bkey Sha.less (f.D,f.B) s.blobs}
def Ste.keep (s:Ste)(f:Fac):Ste:=if hasB s f.D=true then {s with keeps:=add id klt (f.S,f.D) s.keeps} else s
def Ste.hint (s:Ste)(f:Fac):Ste:=if hasB s f.D=true then {s with hints:=add id hlt (f.H,f.S,f.D) s.hints} else s
def goesK (f:Fac)(x:Int×Id):Bool:=decide (f.K=10/\x.1=f.S)
def goesH (f:Fac)(x:Int×Int×Id):Bool:=decide (f.K=10/\x.2.1=f.S\/f.K=6/\x=(f.H,f.S,f.D))
def needed (ks:List (Int×Id))(hs:List (Int×Int×Id))(d:Id):Bool:=(ks.any fun x=>decide (x.2=d)) || hs.any fun x=>decide (x.2.2=d)
def Ste.less (s:Ste)(f:Fac):Ste:=
 let ks:=s.keeps.filter fun x=>!goesK f x
 let hs:=s.hints.filter fun x=>!goesH f x
 {s with keeps:=ks,hints:=hs,blobs:=s.blobs.filter fun x=>!needed (s.keeps.filter (goesK f)) (s.hints.filter (goesH f)) x.1 || needed ks hs x.1}
def Ste.was (s:Ste)(k:Int):Vot:=(Rise.look vkey ilt k s.votes).getD ⟨k,0,0,0,0,[]⟩
def Ste.vote (s:Ste)(f:Fac):Ste:=
 let v:=s.was f.S
 if f.K=7 then(if more f.N f.O v.PN v.PO=true then {s with votes:=upd vkey ilt ⟨f.S,f.N,f.O,v.AN,v.AO,v.B⟩ s.votes} else s)
 else if more v.PN v.PO f.N f.O=true then s else {s with votes:=upd vkey ilt ⟨f.S,f.N,f.O,f.N,f.O,f.B⟩ s.votes}
def Ste.decide_ (s:Ste)(f:Fac):Ste:={s with decs:=add dkey ilt (f.S,f.B) s.decs}
def Ste.on (s:Ste)(f:Fac):Ste:=
 if f.K=1 then {s with born:=true} else if f.K=2 then {s with boot:=max s.boot f.S} else if f.K=3 then s.blob f else if f.K=4 then s.keep f else if f.K=5 then s.hint f else
 if f.K=6\/f.K=10 then s.less f else if f.K=7\/f.K=8 then s.vote f else s.decide_ f
def Ste.run:Ste->List Fac->Ste×Int
 | s,[]=>(s,0)
 | s,f::l=>if can f=true then(s.on f).run l else(Ste.none,2)
def fold (l:List Fac):Ste×Int:=Ste.none.run l
theorem on_1 (s:Ste) {f:Fac}(h:f.K=1):s.on f= {s with born:=true}:=by unfold Ste.on;rw[if_pos h]
theorem on_2 (s:Ste) {f:Fac}(h:f.K=2):s.on f= {s with boot:=max s.boot f.S}:=by unfold Ste.on;rw[if_neg (by omega),if_pos h]
theorem on_3 (s:Ste) {f:Fac}(h:f.K=3):s.on f=s.blob f:=by unfold Ste.on;rw[if_neg (by omega),if_neg (by omega),if_pos h]
theorem on_4 (s:Ste) {f:Fac}(h:f.K=4):s.on f=s.keep f:=by unfold Ste.on;rw[if_neg (by omega),if_neg (by omega),if_neg (by omega),if_pos h]
theorem on_5 (s:Ste) {f:Fac}(h:f.K=5):s.on f=s.hint f:=by unfold Ste.on;rw[if_neg (by omega),if_neg (by omega),if_neg (by omega),if_neg (by omega),if_pos h]
theorem on_less (s:Ste) {f:Fac}(h:f.K=6\/f.K=10):s.on f=s.less f:=by unfold Ste.on;rw[if_neg (by omega),if_neg (by omega),if_neg (by omega),if_neg (by omega),if_neg (by omega),if_pos h]
theorem on_vote (s:Ste) {f:Fac}(h:f.K=7\/f.K=8):s.on f=s.vote f:=by unfold Ste.on;rw[if_neg (by omega),if_neg (by omega),if_neg (by omega),if_neg (by omega),if_neg (by omega),if_neg (by omega),if_pos h]
theorem on_9 (s:Ste) {f:Fac}(h:f.K=9):s.on f=s.decide_ f:=by unfold Ste.on;rw[if_neg (by omega),if_neg (by omega),if_neg (by omega),if_neg (by omega),if_neg (by omega),if_neg (by omega),if_neg (by omega)]
theorem vote_7 (s:Ste) {f:Fac}(h:f.K=7)(hm:more f.N f.O (s.was f.S).PN (s.was f.S).PO=true):s.vote f= {s with votes:=upd vkey ilt ⟨f.S,f.N,f.O,(s.was f.S).AN,(s.was f.S).AO,(s.was f.S).B⟩ s.votes}:=by unfold Ste.vote;simp only;rw[if_pos h,if_pos hm]
theorem vote_7n (s:Ste) {f:Fac}(h:f.K=7)(hm:more f.N f.O (s.was f.S).PN (s.was f.S).PO=false):s.vote f=s:=by unfold Ste.vote;simp only;rw[if_pos h,if_neg (by simp[hm])]
theorem vote_8 (s:Ste) {f:Fac}(h:f.K≠7)(hm:more (s.was f.S).PN (s.was f.S).PO f.N f.O=false):s.vote f= {s with votes:=upd vkey ilt ⟨f.S,f.N,f.O,f.N,f.O,f.B⟩ s.votes}:=by unfold Ste.vote;simp only;rw[if_neg h,if_neg (by simp[hm])]
theorem vote_8n (s:Ste) {f:Fac}(h:f.K≠7)(hm:more (s.was f.S).PN (s.was f.S).PO f.N f.O=true):s.vote f=s:=by unfold Ste.vote;simp only;rw[if_neg h,if_pos hm]
structure BlobOk (x:Id×List Int):Prop where
 id:x.1=Sha.sum x.2
 most:x.2.length<=1024
 byte:∀n∈x.2,0<=n/\n<=255
def DataOk (b:List Int):Prop:=b.length<=4000/\∀n∈b,0<=n/\n<=255
structure VoteOk (v:Vot):Prop where
 set_:setOk v.S
 prom:setOk v.PN/\nodeOk v.PO
 acc:(v.AN=0/\v.AO=0/\v.B= [])\/(setOk v.AN/\nodeOk v.AO/\more v.AN v.AO v.PN v.PO=false)
 data:DataOk v.B
structure Sound (s:Ste):Prop where
 boot:0<=s.boot/\s.boot<=2147483647
 blobsUp:Up bkey Sha.less s.blobs
 blobs:∀x∈s.blobs,BlobOk x
 keepsUp:Up id klt s.keeps
 keeps:∀x∈s.keeps,setOk x.1/\hasB s x.2=true
 hintsUp:Up id hlt s.hints
 hints:∀x∈s.hints,nodeOk x.1/\setOk x.2.1/\hasB s x.2.2=true
 votesUp:Up vkey ilt s.votes
 votes:∀v∈s.votes,VoteOk v
 decsUp:Up dkey ilt s.decs
 decs:∀d∈s.decs,setOk d.1/\DataOk d.2
theorem hasB_iff (s:Ste)(d:Id):hasB s d=true↔∃x∈s.blobs,x.1=d:=by simp[hasB]
theorem BlobOk.idOk {x:Id×List Int}(h:BlobOk x):idOk x.1:=by rw[h.id];exact⟨sum32 _,sum8 _⟩
theorem Sound.none:Sound Ste.none:=by
 constructor<;>simp[Ste.none,Up]
theorem hasB_ok {s:Ste}(h:Sound s) {d:Id}(hd:hasB s d=true):idOk d:=by
 obtain⟨x,hx,rfl⟩:=(hasB_iff s d).1 hd
 exact(h.blobs x hx).idOk
theorem more_irrefl (a b:Int):more a b a b=false:=by simp[more]
theorem more_zero {n o:Int}(h1:setOk n)(h2:nodeOk o):more n o 0 0=true:=by unfold setOk nodeOk at *;simp[more];omega
theorem more_asymm {a b c d:Int}(h:more a b c d=true):more c d a b=false:=by simp[more]at h ⊢;omega
theorem more_le_trans {a b c d e f:Int}(h1:more a b c d=true)(h2:more e f c d=false):more e f a b=false:=by simp[more]at h1 h2 ⊢;omega
theorem was_ok {s:Ste}(h:Sound s)(k:Int):(s.was k).S=k/\((Rise.look vkey ilt k s.votes=Option.none/\s.was k=⟨k,0,0,0,0,[]⟩)\/(Rise.look vkey ilt k s.votes=some (s.was k)/\VoteOk (s.was k))):=by
 unfold Ste.was
 cases e:Rise.look vkey ilt k s.votes with
 | none=>simp
 | some v=>
    obtain⟨hm,hk⟩:=look_mem e
    exact⟨hk,Or.inr ⟨rfl,h.votes v hm⟩⟩
theorem Sound.blob {s:Ste}(h:Sound s) {f:Fac}(hf:f.ok)(hd:f.D=Sha.sum f.B)(hl:f.B.length<=1024):Sound (s.blob f):=by
 have hb:∀d,hasB s d=true->hasB (s.blob f) d=true:=by
  intro d e
  obtain⟨x,hx,rfl⟩:=(hasB_iff s d).1 e
  exact(hasB_iff _ _).2 ⟨x,mem_add_old hx,rfl⟩
 have hn:BlobOk (f.D,f.B):=⟨hd,hl,hf.B⟩
 refine⟨h.boot,?_,?_,h.keepsUp,fun x hx=>⟨(h.keeps x hx).1,hb _ (h.keeps x hx).2⟩,h.hintsUp,fun x hx=>⟨(h.hints x hx).1,(h.hints x hx).2.1,hb _ (h.hints x hx).2.2⟩,h.votesUp,h.votes,h.decsUp,h.decs⟩
 ·exact add_up id_ord h.blobsUp (fun y hy=>(h.blobs y hy).idOk) hn.idOk
 ·intro x hx
  rcases mem_add hx with hx | rfl
  ·exact h.blobs x hx
  ·exact hn
theorem Sound.keep {s:Ste}(h:Sound s) {f:Fac}(hs:setOk f.S):Sound (s.keep f):=by
 unfold Ste.keep
 split
 ·rename_i hb
  refine⟨h.boot,h.blobsUp,h.blobs,?_,?_,h.hintsUp,h.hints,h.votesUp,h.votes,h.decsUp,h.decs⟩
  ·exact add_up klt_ord h.keepsUp (fun y hy=>⟨trivial,hasB_ok h (h.keeps y hy).2⟩) ⟨trivial,hasB_ok h hb⟩
  ·intro x hx
   rcases mem_add hx with hx | rfl
   ·exact h.keeps x hx
   ·exact⟨hs,hb⟩
 ·exact h
theorem Sound.hint {s:Ste}(h:Sound s) {f:Fac}(hs:setOk f.S)(hh:nodeOk f.H):Sound (s.hint f):=by
 unfold Ste.hint
 split
 ·rename_i hb
  refine⟨h.boot,h.blobsUp,h.blobs,h.keepsUp,h.keeps,?_,?_,h.votesUp,h.votes,h.decsUp,h.decs⟩
  ·exact add_up hlt_ord h.hintsUp (fun y hy=>⟨trivial,trivial,hasB_ok h (h.hints y hy).2.2⟩) ⟨trivial,trivial,hasB_ok h hb⟩
  ·intro x hx
   rcases mem_add hx with hx | rfl
   ·exact h.hints x hx
   ·exact⟨hh,hs,hb⟩
 ·exact h
theorem needed_k {ks:List (Int×Id)} {hs:List (Int×Int×Id)} {x:Int×Id}(h:x∈ks):needed ks hs x.2=true:=by
 unfold needed;rw[Bool.or_eq_true];exact Or.inl (List.any_eq_true.2 ⟨x,h,by simp⟩)
theorem needed_h {ks:List (Int×Id)} {hs:List (Int×Int×Id)} {x:Int×Int×Id}(h:x∈hs):needed ks hs x.2.2=true:=by
 unfold needed;rw[Bool.or_eq_true];exact Or.inr (List.any_eq_true.2 ⟨x,h,by simp⟩)
theorem Sound.less {s:Ste}(h:Sound s)(f:Fac):Sound (s.less f):=by
 have hb:∀d,hasB s d=true->needed (s.less f).keeps (s.less f).hints d=true->hasB (s.less f) d=true:=by
  intro d e e2
  obtain⟨x,hx,rfl⟩:=(hasB_iff s d).1 e
  refine(hasB_iff _ _).2 ⟨x,List.mem_filter.2 ⟨hx,?_⟩,rfl⟩
  rw[Bool.or_eq_true];exact Or.inr e2
 refine⟨h.boot,h.blobsUp.filter _,fun x hx=>h.blobs x (List.mem_filter.1 hx).1,h.keepsUp.filter _,fun x hx=>?_,h.hintsUp.filter _,fun x hx=>?_,h.votesUp,h.votes,h.decsUp,h.decs⟩
 ·have h0:=h.keeps x (List.mem_filter.1 hx).1
  exact⟨h0.1,hb _ h0.2 (needed_k hx)⟩
 ·have h0:=h.hints x (List.mem_filter.1 hx).1
  exact⟨h0.1,h0.2.1,hb _ h0.2.2 (needed_h hx)⟩
theorem Sound.lay {s:Ste}(h:Sound s) {v:Vot}(hv:VoteOk v):Sound {s with votes:=upd vkey ilt v s.votes}:=by
 refine⟨h.boot,h.blobsUp,h.blobs,h.keepsUp,h.keeps,h.hintsUp,h.hints,upd_up ilt_ord h.votesUp (fun _ _=>trivial) trivial,fun x hx=>?_,h.decsUp,h.decs⟩
 rcases mem_upd hx with rfl | hx
 ·exact hv
 ·exact h.votes x hx
theorem Sound.vote {s:Ste}(h:Sound s) {f:Fac}(hf:f.ok)(hs:setOk f.S)(hb:setOk f.N/\nodeOk f.O)(hl:f.B.length<=4000):Sound (s.vote f):=by
 obtain⟨hk,hw⟩:=was_ok h f.S
 unfold Ste.vote
 simp only
 split
 ·split
  ·rename_i hm
   refine h.lay ⟨hs,hb,?_,?_⟩
   ·rcases hw with⟨_,e⟩ | ⟨_,e⟩
    ·rw[e];exact Or.inl ⟨rfl,rfl,rfl⟩
    ·rcases e.acc with e1 | ⟨e1,e2,e3⟩
     ·exact Or.inl e1
     ·exact Or.inr ⟨e1,e2,more_le_trans hm e3⟩
   ·rcases hw with⟨_,e⟩ | ⟨_,e⟩
    ·rw[e];exact⟨by simp,by simp⟩
    ·exact e.data
  ·exact h
 ·split
  ·exact h
  ·exact h.lay ⟨hs,hb,Or.inr ⟨hb.1,hb.2,more_irrefl _ _⟩,hl,hf.B⟩
theorem Sound.decide_ {s:Ste}(h:Sound s) {f:Fac}(hf:f.ok)(hs:setOk f.S)(hl:f.B.length<=4000):Sound (s.decide_ f):=by
 refine⟨h.boot,h.blobsUp,h.blobs,h.keepsUp,h.keeps,h.hintsUp,h.hints,h.votesUp,h.votes,add_up ilt_ord h.decsUp (fun _ _=>trivial) trivial,fun x hx=>?_⟩
 rcases mem_add hx with hx | rfl
 ·exact h.decs x hx
 ·exact⟨hs,hl,hf.B⟩
theorem Can.sum {f:Fac}(h:Can f)(hk:f.K=3):f.D=Sha.sum f.B:=by
 have:=h.pure_
 obtain⟨k,s,h',n,o,d,b⟩:=f
 simp only at hk;subst hk
 simp[of,items,iB]at this
 exact this.2.2.2.2.symm
theorem Sound.on {s:Ste}(h:Sound s) {f:Fac}(hf:f.ok)(hc:Can f):Sound (s.on f):=by
 have hm:=hc.most
 have hs:=hc.set_
 have hh:=hc.home
 have hb:=hc.ballot
 rcases kinds hc.kind with e | e | e | e | e | e | e | e | e | e<;>simp[e]at hm hs hh hb<;>unfold Ste.on<;>simp only[e]<;>simp
 ·exact⟨h.boot,h.blobsUp,h.blobs,h.keepsUp,h.keeps,h.hintsUp,h.hints,h.votesUp,h.votes,h.decsUp,h.decs⟩
 ·refine⟨?_,h.blobsUp,h.blobs,h.keepsUp,h.keeps,h.hintsUp,h.hints,h.votesUp,h.votes,h.decsUp,h.decs⟩
  have:=h.boot
  unfold setOk at hs
  simp only;omega
 ·exact h.blob hf (hc.sum e) hm
 ·exact h.keep hs
 ·exact h.hint hs hh
 ·exact h.less f
 ·exact h.vote hf hs hb hm
 ·exact h.vote hf hs hb hm
 ·exact h.decide_ hf hs hm
 ·exact h.less f
theorem run_append (l k:List Fac):∀s t:Ste,s.run l=(t,0)->s.run (l++k)=t.run k:=by
 induction l with
 | nil=>intro s t h;simp[Ste.run]at h;rw[h];rfl
 | cons f l ih=>
    intro s t h
    rw[List.cons_append]
    rw[Ste.run]at h ⊢
    split at h
    ·rename_i hc
     rw[if_pos hc];exact ih _ _ h
    ·simp at h
end Fct
end
section
namespace Fct
open Fld (zero32)
open Rise
def fBorn:Fac:=⟨1,0,0,0,0,zero32,[]⟩
def fBoot (n:Int):Fac:=⟨2,n,0,0,0,zero32,[]⟩
def fBlob (x:Id×List Int):Fac:=⟨3,0,0,0,0,x.1,x.2⟩
def fKeep (x:Int×Id):Fac:=⟨4,x.1,0,0,0,x.2,[]⟩
def fHint (x:Int×Int×Id):Fac:=⟨5,x.2.1,x.1,0,0,x.2.2,[]⟩
def fProm (v:Vot):Fac:=⟨7,v.S,0,v.PN,v.PO,zero32,[]⟩
def fAcc (v:Vot):Fac:=⟨8,v.S,0,v.AN,v.AO,zero32,v.B⟩
def fVote (v:Vot):List Fac:=if v.AN=0 then [fProm v]else if more v.PN v.PO v.AN v.AO=true then [fAcc v,fProm v]else [fProm v,fAcc v]
def fDec (d:Int×List Int):Fac:=⟨9,d.1,0,0,0,zero32,d.2⟩
def facts1 (s:Ste):List Fac:=(if s.born=true then [fBorn]else [])++(if s.boot≠0 then [fBoot s.boot]else [])
def facts (s:Ste):List Fac:=facts1 s++s.blobs.map fBlob++s.keeps.map fKeep++s.hints.map fHint++s.votes.flatMap fVote++s.decs.map fDec
def vlen (l:List Vot):Nat:=(l.flatMap fVote).length
theorem fVote_len (v:Vot):1<=(fVote v).length/\(fVote v).length<=2:=by
 unfold fVote
 split
 ·simp
 ·split<;>simp
theorem vlen_append (l k:List Vot):vlen (l++k)=vlen l+vlen k:=by simp[vlen]
theorem vlen_cons (v:Vot)(l:List Vot):vlen (v::l)=(fVote v).length+vlen l:=by simp[vlen]
theorem vlen_tail (l:List Vot):vlen l.tail<=vlen l:=by
 cases l with
 | nil=>simp
 | cons v l=>rw[vlen_cons];simp
theorem vlen_upd (v:Vot)(l:List Vot):vlen (upd vkey ilt v l)<=vlen l+2:=by
 have h:=congrArg vlen (pre_post vkey ilt (vkey v) l)
 rw[vlen_append]at h
 have hv:=fVote_len v
 have ht:=vlen_tail (post vkey ilt (vkey v) l)
 unfold upd
 split<;>rw[vlen_append,vlen_cons]<;>omega
def bn (b:Bool):Nat:=if b=true then 1 else 0
def zn (n:Int):Nat:=if n≠0 then 1 else 0
theorem bn_le (b:Bool):bn b<=1:=by unfold bn;split<;>omega
theorem zn_le (n:Int):zn n<=1:=by unfold zn;split<;>omega
theorem facts_length (s:Ste):(facts s).length=bn s.born+zn s.boot+s.blobs.length+s.keeps.length+s.hints.length+vlen s.votes+s.decs.length:=by
 unfold facts facts1 vlen
 simp only[List.length_append,List.length_map]
 have e1:(if s.born=true then [fBorn]else []).length=bn s.born:=by unfold bn;split<;>rfl
 have e2:(if s.boot≠0 then [fBoot s.boot]else []).length=zn s.boot:=by unfold zn;split<;>rfl
 rw[e1,e2]
theorem on_few (s:Ste)(f:Fac):(facts (s.on f)).length<=(facts s).length+2:=by
 rw[facts_length,facts_length]
 have b1:=bn_le true
 have b2:=zn_le (max s.boot f.S)
 unfold Ste.on
 split
 ·simp only;omega
 ·split
  ·simp only;omega
  ·split
   ·have:=(add_length (key:=bkey) (lt:=Sha.less) (f.D,f.B) s.blobs).2
    simp only[Ste.blob];omega
   ·split
    ·unfold Ste.keep
     split
     ·have:=(add_length (key:=id) (lt:=klt) (f.S,f.D) s.keeps).2
      simp only;omega
     ·omega
    ·split
     ·unfold Ste.hint
      split
      ·have:=(add_length (key:=id) (lt:=hlt) (f.H,f.S,f.D) s.hints).2
       simp only;omega
      ·omega
     ·split
      ·simp only[Ste.less]
       have h1:=List.length_filter_le (fun x=>!goesK f x) s.keeps
       have h2:=List.length_filter_le (fun x=>!goesH f x) s.hints
       have h3:=List.length_filter_le (fun x:Id×List Int=>!needed (s.keeps.filter (goesK f)) (s.hints.filter (goesH f)) x.1 || needed (s.keeps.filter fun x=>!goesK f x) (s.hints.filter fun x=>!goesH f x) x.1) s.blobs
       omega
      ·split
       ·unfold Ste.vote
        simp only
        split
        ·split
         ·have:=vlen_upd ⟨f.S,f.N,f.O,(s.was f.S).AN,(s.was f.S).AO,(s.was f.S).B⟩ s.votes
          simp only;omega
         ·omega
        ·split
         ·omega
         ·have:=vlen_upd ⟨f.S,f.N,f.O,f.N,f.O,f.B⟩ s.votes
          simp only;omega
       ·have:=(add_length (key:=dkey) (lt:=ilt) (f.S,f.B) s.decs).2
        simp only[Ste.decide_];omega
theorem run_few (l:List Fac):∀s t:Ste,s.run l=(t,0)->(facts t).length<=(facts s).length+2*l.length:=by
 induction l with
 | nil=>intro s t h;simp[Ste.run]at h;rw[h];simp
 | cons f l ih=>
    intro s t h
    rw[Ste.run]at h
    split at h
    ·have h1:=ih _ _ h
     have h2:=on_few s f
     rw[List.length_cons];omega
    ·simp at h
end Fct
end
section
def Ints8 (w:World)(v:Value):Prop:=∀g,v.ownBlock=some g->∀(j:Nat) u,w.cell? ⟨g,j,none⟩=some u->∃n,u= .int .u8 n
structure Own8 (w:World)(B:Nat)(e:TypeId)(v:Value)(n:Nat)(xs:List Value):Prop where
 row:w.ownsRow B e 1 v n xs
 ints:Ints8 w v
theorem Ints8.nil (w:World):Ints8 w (.slice none 0 0):=fun g h=>by cases h
theorem Own8.nil (w:World)(B:Nat)(e:TypeId):Own8 w B e (.slice none 0 0) 0 []:=⟨World.ownsRow_nil _ _ _ _,Ints8.nil _⟩
theorem Ints8.carry {w w':World} {v:Value}(h:Ints8 w v)(hc:∀g,v.ownBlock=some g->w'.heap[g]? = w.heap[g]?):Ints8 w' v:=fun g hg j u hu=>h g hg j u (by rw[<-hu];exact(World.cell?_of_block (hc g hg)).symm)
theorem Own8.alloc {w:World} {B n:Nat} {e:TypeId} {v:Value} {xs:List Value}(h:Own8 w B e v n xs)(o:Obj):Own8 (w.alloc o) B e v n xs:=
 ⟨h.row.alloc o,h.ints.carry fun g hg=>(World.grownBy_alloc w o none).block g (h.row.lt g hg).2 (by simp)⟩
theorem ints_block {w:World} {g n c:Nat} {cur:Array Value} {e:TypeId} {fr:Nat×Nat}(hh:w.heap[g]? = some (.cells cur e fr))(h:∀u∈cur.toList,∃n,u=Value.int .u8 n):Ints8 w (.slice (some ⟨g,0,none⟩) n c):=by
 intro g' hg j u hu
 cases hg
 rw[cell_of_row w g j cur e fr hh]at hu
 exact h u (by rw[Array.mem_toList_iff];exact Array.mem_of_getElem? hu)
theorem ints_zero (k:Nat):∀u∈(Builtin.zeroCells (Value.cells (.int .u8 0)) k).toList,∃n,u=Value.int .u8 n:=by
 intro u hu
 rw[Array.mem_toList_iff]at hu
 obtain⟨i,hi,rfl⟩:=Array.mem_iff_getElem.1 hu
 have h0:i % 1=0:=by omega
 exact⟨0,by simp[Builtin.zeroCells,Value.cells,h0]⟩
theorem ints_row {w:World} {g:Nat} {cur:Array Value} {e:TypeId} {fr:Nat×Nat} {n c:Nat}(h:Ints8 w (.slice (some ⟨g,0,none⟩) n c))(hh:w.heap[g]? = some (.cells cur e fr)):∀u∈cur.toList,∃n,u=Value.int .u8 n:=by
 intro u hu
 rw[Array.mem_toList_iff]at hu
 obtain⟨i,hi⟩:=Array.mem_iff_getElem?.1 hu
 exact h g rfl i u (by rw[cell_of_row w g i cur e fr hh];exact hi)
section
variable {P:Program} {ops:Array Oper} {rest:List Oper} {o:Oper} {a:Act} {w:World} {Q:Exit->Act->World->Prop} {K:Act->World->Prop} {E:Prop}
theorem run_app8 (w:World)(B:Nat)(t ty e:TypeId)(i:TypeInfo)(by_:Nat)(ht:P.underlying t=some (.slice e))(hi:P.info? e=some i)(hz:i.zero=some (.int .u8 0))(h1s:i.size=1)(hby:i.bytes=by_)
 (v:Value) (n:Nat) (xs:List Value) (hown:Own8 w B e v n xs)
 (ad:Addr) (m c:Nat) (news:List Value) (hl:news.length=m) (hnews:∀j u,news[j]? = some u->w.cell? (ad.add j)=some u) (h1:∀u∈news,∃n,u=Value.int .u8 n)
 (hmax:n+m<=maxLen) (hbytes:(n+m)*by_<=140737488355328) (hB:B<=w.heap.size):
 ∃v' w',(Builtin.append_ #[t,t] ty #[v,.slice (some ad) m c]).run P w= .ok v' w'/\Own8 w' B e v' (n+m) (xs++news)/\w.grownBy w' v.ownBlock:=by
 have hone:∀u∈news,u.oneCell'=true:=fun u hu=>by obtain⟨k,rfl⟩:=h1 u hu;rfl
 obtain⟨v',w',hr,h2,h3,_⟩:=run_append_own (P:=P) w B t ty e i (.int .u8 0) 1 by_ ht hi hz h1s hby rfl (by decide) v n xs hown.row ad m c news (by omega) hnews hone hmax hbytes hB
 refine⟨v',w',hr,⟨h2,?_⟩,h3⟩
 have hsmall:n+m<=9223372036854775807:=by simp only[maxLen]at hmax;omega
 subst hby
 rcases hown.row.2 with⟨rfl,rfl⟩ | ⟨g,cap,cur,rfl,hbg,hg,hnc,hcm,hcs,htake⟩
 ·by_cases hm:m=0
  ·subst hm
   have hn:news= []:=List.eq_nil_of_length_eq_zero hl
   subst hn
   have hr':(Builtin.append_ #[t,t] ty #[.slice none 0 0,.slice (some ad) 0 c]).run P w= .ok (.slice none 0 0) w:=by
    simp[Builtin.append_,run_underlying ht,sizeOf,typeInfo,hi,Builtin.lenOf,Builtin.firstCells,loadCells,loadCellsFrom]
   rw[hr']at hr
   cases hr
   exact Ints8.nil _
  ·have hr':=run_append_nil (P:=P) w t ty e i (.int .u8 0) ht hi hz ad m c news (by rw[h1s];omega) hnews (by omega) (by omega) (by have hb:=hbytes;simp only[Nat.zero_add]at hb;omega)
   rw[hr']at hr
   cases hr
   refine ints_block (heap_alloc_new w.drew _) fun u hu=>?_
   rw[Array.toList_append,List.mem_append]at hu
   rcases hu with hu | hu
   ·exact h1 u (by simpa using hu)
   ·exact ints_zero _ u hu
 ·by_cases hroom:n+m<=cap
  ·have hfit:n*i.size+news.length<=cur.size:=by rw[h1s,hcs];omega
   have hr':=run_append_room (P:=P) w t ty e i ht hi g n cap cur hg ad m c news (by rw[h1s];omega) hnews hone hroom hfit
   rw[hr']at hr
   cases hr
   refine ints_block (setRow_heap w g cur _ e _ hg) fun u hu=>?_
   have hi:=ints_row hown.ints hg
   simp only[List.mem_append]at hu
   rcases hu with(hu | hu) | hu
   ·exact hi u (List.mem_of_mem_take hu)
   ·exact h1 u hu
   ·exact hi u (List.mem_of_mem_drop hu)
  ·have holds:∀j u,xs[j]? = some u->w.cell? ((⟨g,0,none⟩:Addr).add j)=some u:=hown.row.cells (g:=g) rfl
   have hr':=run_append_grow (P:=P) w t ty e i (.int .u8 0) ht hi hz ⟨g,0,none⟩ n cap xs (by rw[h1s];exact hown.row.1) holds ad m c news (by rw[h1s];omega) hnews (by omega) (by omega) (growslice_fits (by omega) hbytes)
   rw[hr']at hr
   cases hr
   refine ints_block (heap_alloc_new w.drew _) fun u hu=>?_
   rw[Array.toList_append,Array.toList_append,List.mem_append,List.mem_append]at hu
   have hi:=ints_row hown.ints hg
   rcases hu with(hu | hu) | hu
   ·exact hi u (by
     have:u∈xs:=by simpa using hu
     rw[<-htake]at this
     exact List.mem_of_mem_take this)
   ·exact h1 u (by simpa using hu)
   ·exact ints_zero _ u hu
theorem wp_app8 (s x:Operand)(t:TypeId)(ho:o.op= .call {callee:=.builtin .append,args:=#[s,x],argTypes:=#[t,t]})
 (B:Nat) (e:TypeId) {by_:Nat} (ht:P.underlying t=some (.slice e)) (hi:(P.info? e).map (fun i=>(i.zero,i.size,i.bytes))=some (some (.int .u8 0),1,by_))
 (v:Value) (n:Nat) (xs:List Value) (hs:a.eval s=v) (hown:Own8 w B e v n xs)
 (p:Option Addr) (m c:Nat) (news:List Value) (hx:a.eval x= .slice p m c) (hA:At w p news) (hl:news.length=m) (hn:p=none->c=0) (hmc:m<=c) (h1:∀u∈news,∃n,u=Value.int .u8 n)
 (hbytes:(n+m)*by_<=140737488355328) (hmax:n+m<=maxLen) (hB:B<=w.heap.size)
 (h:∀v' w',Own8 w' B e v' (n+m) (xs++news)->w.grownBy w' v.ownBlock->RowKit.Below B w w'->B<=w'.heap.size->K (a.put o.dst v') w'):o.wp P a w K Q:=by
 obtain⟨i,hi,hz0,hz1,hz2⟩:=info_parts hi
 have hblock:∀k,v.ownBlock=some k->B<=k:=fun k hk=>(hown.row.lt k hk).1
 cases p with
 | none=>
    have hc:=hn rfl
    have hm:m=0:=by omega
    subst hc hm
    have hnews:news= []:=List.eq_nil_of_length_eq_zero hl
    subst hnews
    have hrun:=run_append_owned_none (P:=P) (w:=w) B t o.type e i 1 ht hi v n xs hown.row
    unfold Oper.wp
    simp[execOp,ho,resolve,invoke,builtin,hs,hx,hrun,Result.andThen]
    exact h v w (by simpa using hown) ⟨rfl,rfl,rfl,Nat.le_refl _,fun _ _ _=>rfl⟩ (RowKit.Below.refl _ _) hB
 | some ad=>
    obtain⟨v',w',hr,h2,h3⟩:=run_app8 (P:=P) w B t o.type e i by_ ht hi hz0 hz1 hz2 v n xs hown ad m c news hl (by
     intro j u hj
     rcases hA with hA | ⟨b,off,hA,hc⟩
     ·subst hA;simp at hj
     ·cases hA;rw[Addr.add_mid];exact hc j u hj) h1 hmax hbytes hB
    unfold Oper.wp
    simp[execOp,ho,resolve,invoke,builtin,hs,hx,hr,Result.andThen]
    exact h v' w' h2 h3 ((RowKit.Below.refl B w).grown h3 hB hblock) (Nat.le_trans hB h3.size)
theorem wpList_app8 (hgd:o.guard=none)(s x:Operand)(t:TypeId)(ho:o.op= .call {callee:=.builtin .append,args:=#[s,x],argTypes:=#[t,t]})
 (B:Nat) (e:TypeId) {by_:Nat} (ht:P.underlying t=some (.slice e)) (hi:(P.info? e).map (fun i=>(i.zero,i.size,i.bytes))=some (some (.int .u8 0),1,by_))
 (v:Value) (n:Nat) (xs:List Value) (hs:a.eval s=v) (hown:Own8 w B e v n xs)
 (p:Option Addr) (m c:Nat) (news:List Value) (hx:a.eval x= .slice p m c) (hA:At w p news) (hl:news.length=m) (hn:p=none->c=0) (hmc:m<=c) (h1:∀u∈news,∃n,u=Value.int .u8 n)
 (hbytes:(n+m)*by_<=140737488355328) (hmax:n+m<=maxLen) (hB:B<=w.heap.size)
 (h:∀v' w',Own8 w' B e v' (n+m) (xs++news)->w.grownBy w' v.ownBlock->RowKit.Below B w w'->B<=w'.heap.size->wpList P ops Q rest (a.put o.dst v') w'):wpList P ops Q (o::rest) a w:=
 wpList_plain hgd fun _ hK=>wp_app8 s x t ho B e ht hi v n xs hs hown p m c news hx hA hl hn hmc h1 hbytes hmax hB fun v' w' h1 h2 h3 h4=>hK _ _ (h v' w' h1 h2 h3 h4)
theorem step_app8 (hgd:o.guard=none)(s x:Operand)(t:TypeId)(ho:o.op= .call {callee:=.builtin .append,args:=#[s,x],argTypes:=#[t,t]})
 (B:Nat) (e:TypeId) {by_:Nat} (ht:P.underlying t=some (.slice e)) (hi:(P.info? e).map (fun i=>(i.zero,i.size,i.bytes))=some (some (.int .u8 0),1,by_))
 (v:Value) (n:Nat) (xs:List Value) (hs:a.eval s=v) (hown:Own8 w B e v n xs)
 (p:Option Addr) (m c:Nat) (news:List Value) (hx:a.eval x= .slice p m c) (hA:At w p news) (hl:news.length=m) (hn:p=none->c=0) (hmc:m<=c) (h1:∀u∈news,∃n,u=Value.int .u8 n)
 (hbytes:(n+m)*by_<=140737488355328) (hmax:n+m<=maxLen) (hB:B<=w.heap.size)
 (h:∀v' w',Own8 w' B e v' (n+m) (xs++news)->w.grownBy w' v.ownBlock->RowKit.Below B w w'->B<=w'.heap.size->K (a.put o.dst v') w'):
 if Region.wanted o (yielded ops a.tmps)=true then Oper.wp P o a w K Q else E:=by
 have hw:Region.wanted o (yielded ops a.tmps)=true:=by simp[Region.wanted,hgd]
 rw[if_pos hw]
 exact wp_app8 s x t ho B e ht hi v n xs hs hown p m c news hx hA hl hn hmc h1 hbytes hmax hB h
end
theorem ints_map (l:List Int):∀u∈l.map (Value.int .u8),∃n,u=Value.int .u8 n:=by
 intro u hu
 obtain⟨n,_,rfl⟩:=List.mem_map.1 hu
 exact⟨n,rfl⟩
end
section
open Go.RowKit Sha Fct
abbrev i64c (n:Int):Value:=.int .i64 n
theorem v8_cells {l:List Int}:∀v∈l.map v8,v.oneCell'=true:=by
 intro v hv
 obtain⟨n,_,rfl⟩:=List.mem_map.1 hv
 simp[Value.oneCell']
def fcells (x:Fac)(q:Option Addr)(c:Nat):List Value:=i64c x.K::i64c x.S::i64c x.H::i64c x.N::i64c x.O::(x.D.map v8++[.slice q x.B.length c])
theorem fcells_K (x:Fac)(q:Option Addr)(c:Nat):(fcells x q c)[0]? = some (i64c x.K):=rfl
theorem fcells_S (x:Fac)(q:Option Addr)(c:Nat):(fcells x q c)[1]? = some (i64c x.S):=rfl
theorem fcells_H (x:Fac)(q:Option Addr)(c:Nat):(fcells x q c)[2]? = some (i64c x.H):=rfl
theorem fcells_N (x:Fac)(q:Option Addr)(c:Nat):(fcells x q c)[3]? = some (i64c x.N):=rfl
theorem fcells_O (x:Fac)(q:Option Addr)(c:Nat):(fcells x q c)[4]? = some (i64c x.O):=rfl
theorem fcells_D (x:Fac)(q:Option Addr)(c:Nat)(j:Nat)(v:Value)(h:(x.D.map v8)[j]? = some v):(fcells x q c)[5+j]? = some v:=by
 unfold fcells
 rw[show 5+j=j+1+1+1+1+1 by omega,List.getElem?_cons_succ,List.getElem?_cons_succ,List.getElem?_cons_succ,List.getElem?_cons_succ,List.getElem?_cons_succ,List.getElem?_append_left (List.getElem?_eq_some_iff.1 h).1]
 exact h
theorem fcells_B {x:Fac}(h:x.D.length=32)(q:Option Addr)(c:Nat):(fcells x q c)[37]? = some (.slice q x.B.length c):=by
 unfold fcells
 rw[List.getElem?_cons_succ,List.getElem?_cons_succ,List.getElem?_cons_succ,List.getElem?_cons_succ,List.getElem?_cons_succ,List.getElem?_append_right (by simp[h])]
 simp[h]
theorem fcells_length {x:Fac}(h:x.D.length=32)(q:Option Addr)(c:Nat):(fcells x q c).length=38:=by unfold fcells;simp[h]
theorem fcells_one (x:Fac)(q:Option Addr)(c:Nat):∀v∈fcells x q c,v.oneCell'=true:=by
 unfold fcells
 intro v hv
 simp only[List.mem_cons,List.mem_append,List.not_mem_nil,or_false]at hv
 rcases hv with rfl | rfl | rfl | rfl | rfl | hv | rfl
 ·rfl
 ·rfl
 ·rfl
 ·rfl
 ·rfl
 ·exact v8_cells v hv
 ·rfl
def sF:Shp Fac:=⟨38,Fac.B,fcells,Fac.ok,by omega,fun q c h=>fcells_length h.len q c,fcells_one,fun h=>h.B⟩
def bcells (x:Fct.Id×List Int)(q:Option Addr)(c:Nat):List Value:=x.1.map v8++[.slice q x.2.length c]
theorem bcells_D (x:Fct.Id×List Int)(q:Option Addr)(c:Nat)(j:Nat)(v:Value)(h:(x.1.map v8)[j]? = some v):(bcells x q c)[j]? = some v:=by
 unfold bcells;rw[List.getElem?_append_left (List.getElem?_eq_some_iff.1 h).1];exact h
theorem bcells_one (x:Fct.Id×List Int)(q:Option Addr)(c:Nat):∀v∈bcells x q c,v.oneCell'=true:=by
 unfold bcells
 intro v hv
 rcases List.mem_append.1 hv with hv | hv
 ·exact v8_cells v hv
 ·rw[List.mem_singleton.1 hv];rfl
def sB:Shp (Fct.Id×List Int):=⟨33,(·.2),bcells,fun x=>idOk x.1/\∀n∈x.2,0<=n/\n<=255,by omega,fun q c h=>by unfold bcells;simp[h.1.1],bcells_one,fun h=>h.2⟩
def kcells (x:Int×Fct.Id)(_:Option Addr)(_:Nat):List Value:=i64c x.1::x.2.map v8
def sK:Shp (Int×Fct.Id):=⟨33,fun _=>[],kcells,fun x=>fit x.1/\idOk x.2,by omega,fun q c h=>by unfold kcells;simp[h.2.1],fun x q c v hv=>by
 rcases List.mem_cons.1 hv with rfl | hv
 ·rfl
 ·exact v8_cells v hv,fun _=>by simp⟩
def hcells (x:Int×Int×Fct.Id)(_:Option Addr)(_:Nat):List Value:=i64c x.1::i64c x.2.1::x.2.2.map v8
def sH:Shp (Int×Int×Fct.Id):=⟨34,fun _=>[],hcells,fun x=>fit x.1/\fit x.2.1/\idOk x.2.2,by omega,fun q c h=>by unfold hcells;simp[h.2.2.1],fun x q c v hv=>by
 rcases List.mem_cons.1 hv with rfl | hv
 ·rfl
 ·rcases List.mem_cons.1 hv with rfl | hv
  ·rfl
  ·exact v8_cells v hv,fun _=>by simp⟩
def vcells (x:Vot)(q:Option Addr)(c:Nat):List Value:=[i64c x.S,i64c x.PN,i64c x.PO,i64c x.AN,i64c x.AO,.slice q x.B.length c]
structure Vot.ok (x:Vot):Prop where
 S:fit x.S
 PN:fit x.PN
 PO:fit x.PO
 AN:fit x.AN
 AO:fit x.AO
 B:∀n∈x.B,0<=n/\n<=255
def sV:Shp Vot:=⟨6,Vot.B,vcells,Vot.ok,by omega,fun _ _ _=>rfl,fun x q c v hv=>by
 unfold vcells at hv;simp at hv;rcases hv with rfl | rfl | rfl | rfl | rfl | rfl<;>rfl,fun h=>h.B⟩
def dcells9 (x:Int×List Int)(q:Option Addr)(c:Nat):List Value:=[i64c x.1,.slice q x.2.length c]
def sD:Shp (Int×List Int):=⟨2,(·.2),dcells9,fun x=>fit x.1/\∀n∈x.2,0<=n/\n<=255,by omega,fun _ _ _=>rfl,fun x q c v hv=>by
 unfold dcells9 at hv;simp at hv;rcases hv with rfl | rfl<;>rfl,fun h=>h.2⟩
abbrev Sl3:=Option Addr×Nat×Nat
abbrev Sl3.v (x:Sl3):Value:=.slice x.1 x.2.1 x.2.2
structure Hds where
 b:Sl3
 k:Sl3
 h:Sl3
 v:Sl3
 d:Sl3
def Hds.none:Hds:=⟨(.none,0,0),(.none,0,0),(.none,0,0),(.none,0,0),(.none,0,0)⟩
def scells (s:Ste)(h:Hds):List Value:=[.bool s.born,i64c s.boot,h.b.v,h.k.v,h.h.v,h.v.v,h.d.v]
theorem scells_eq (s:Ste)(h:Hds):scells s h= [.bool s.born,i64c s.boot,h.b.v,h.k.v,h.h.v,h.v.v,h.d.v]:=rfl
theorem scells_length (s:Ste)(h:Hds):(scells s h).length=7:=rfl
theorem scells_one (s:Ste)(h:Hds):∀v∈scells s h,v.oneCell'=true:=by
 intro v hv;unfold scells at hv;simp at hv;rcases hv with rfl | rfl | rfl | rfl | rfl | rfl | rfl<;>rfl
attribute [irreducible] scells
structure SGood (w:World)(s:Ste)(e:Hds):Prop where
 b:sB.Told w e.b.1 e.b.2.1 e.b.2.2 s.blobs
 k:sK.Told w e.k.1 e.k.2.1 e.k.2.2 s.keeps
 h:sH.Told w e.h.1 e.h.2.1 e.h.2.2 s.hints
 v:sV.Told w e.v.1 e.v.2.1 e.v.2.2 s.votes
 d:sD.Told w e.d.1 e.d.2.1 e.d.2.2 s.decs
def FPut (w:World)(r:List Int×Int)(e:Ending)(w':World):Prop:=
 ∃v,e= .returned (.tuple #[v,.int .i64 r.2])/\Own8 w' w.heap.size 5 v r.1.length (r.1.map v8)/\Below w.heap.size w w'
def FGet (w:World)(r:Fac×Int×Nat)(e:Ending)(w':World):Prop:=
 ∃q c,e= .returned (.tuple #[.agg (fcells r.1 q c).toArray,.agg #[.int .i64 r.2.1,.int .i64 (r.2.2:Int)]])/\sF.Good w' r.1 q c/\Below w.heap.size w w'
def FSte (w:World)(r:Ste×Int)(e:Ending)(w':World):Prop:=
 ∃h,e= .returned (.tuple #[.agg (scells r.1 h).toArray,.int .i64 r.2])/\SGood w' r.1 h/\Below w.heap.size w w'
abbrev dataMost:Nat:=1000000000000
abbrev listMost:Nat:=2000000
end
section
variable {P:Program}
theorem foldl_put:∀(vs:List Value)(pre mid post:List Value)(j:Nat)(off:Nat),pre.length=off+j->mid.length=vs.length->
 (vs.zipIdx j).foldl (fun(cs:Array Value) (x:Value×Nat)=>cs.setIfInBounds (off+x.2) x.1) (pre++mid++post).toArray=(pre++vs++post).toArray
 | [],pre,mid,post,j,off,_,hm=>by
    have:mid= []:=List.eq_nil_of_length_eq_zero hm
    subst this;simp
 | v::vs,pre,mid,post,j,off,hp,hm=>by
    cases mid with
    | nil=>simp at hm
    | cons m mid=>
       rw[List.zipIdx_cons,List.foldl_cons]
       have e:(pre++(m::mid)++post).toArray.setIfInBounds (off+j) v=((pre++[v])++mid++post).toArray:=by
        rw[<-hp,List.setIfInBounds_toArray];simp
       rw[e,foldl_put vs (pre++[v]) mid post (j+1) off (by simp;omega) (by simpa using hm)]
       simp
theorem put_cells (vs pre mid post:List Value)(off:Nat)(hp:pre.length=off)(hm:mid.length=vs.length):
 (vs.toArray.zipIdx.foldl (fun(cs:Array Value) (x:Value×Nat)=>cs.setIfInBounds (off+x.2) x.1) (pre++mid++post).toArray)=(pre++vs++post).toArray:=by
 rw[<-foldl_put vs pre mid post 0 off (by simpa using hp) hm,<-Array.foldl_toList]
 simp
theorem fill_parts (s:Nat):∀(css:List (List Value))(i:Nat)(done rest:List Value),(∀c∈css,c.length=s)->done.length=i*s->rest.length=css.length*s->
 Instr.fill (fun i=>some (i*s,s)) (done++rest).toArray (css.zipIdx i |>.map fun c=>(c.2,Value.agg c.1.toArray))=some (done++css.flatten).toArray
 | [],i,done,rest,_,_,hr=>by
    have:rest= []:=List.eq_nil_of_length_eq_zero (by simpa using hr)
    subst this;simp[Instr.fill]
 | c::css,i,done,rest,hc,hd,hr=>by
    have hl:c.length=s:=hc c (List.mem_cons_self ..)
    have hr':rest.length=css.length*s+s:=by rw[hr,List.length_cons,Nat.succ_mul]
    rw[List.zipIdx_cons,List.map_cons,Instr.fill]
    dsimp only
    split
    ·rename_i hne
     exfalso
     simp[Value.cells,hl,hd,hr']at hne
     omega
    ·show Instr.fill _ (Array.foldl _ (done++rest).toArray c.toArray.zipIdx) _=_
     have e:=put_cells c done (rest.take s) (rest.drop s) (i*s) hd (by rw[List.length_take,hl];omega)
     rw[List.append_assoc,List.take_append_drop]at e
     rw[e,fill_parts s css (i+1) (done++c) (rest.drop s) (fun c hc'=>hc c (List.mem_cons_of_mem _ hc')) (by rw[List.length_append,hd,hl,Nat.succ_mul]) (by rw[List.length_drop];omega)]
     simp
theorem run_build_items (w:World)(t e:TypeId)(s:Nat)(z:Value)(hs:0 < s)(hu:P.underlying t=some (.slice e))(he:(P.info? e).map (fun i=>(i.zero,i.size))=some (some z,s))(css:List (List Value))(hc:∀c∈css,c.length=s)(hk:css.length*s<=16777216):
 (Instr.buildSlice t css.length (css.zipIdx.map fun c=>(c.2,Value.agg c.1.toArray)).toArray).run P w= .ok (.slice (some ⟨w.heap.size,0,none⟩) css.length css.length) (w.alloc (.cells css.flatten.toArray e)):=by
 cases hq:P.info? e with
 | none=>simp[hq]at he
 | some i=>
    simp[hq]at he
    obtain⟨hz,hsz⟩:=he
    have h1:(sizeOf e).run P w= .ok s w:=by simp[sizeOf,typeInfo,hq,hsz]
    have h2:(zeroValue e).run P w= .ok z w:=by simp[zeroValue,typeInfo,hq,hz]
    have hf:=fill_parts s css 0 [] ((Array.range (css.length*s)).map (fun x=>z.cells[x % z.cells.size]!)).toList hc (by simp) (by simp)
    simp only[List.nil_append,Array.toArray_toList]at hf
    by_cases h0:css.length*s=0
    ·have hn:css= []:=by
      cases css with
      | nil=>rfl
      | cons c cs=>rcases Nat.mul_eq_zero.1 h0 with h | h;simp at h;omega
     subst hn
     simp[go_sem,Instr.buildSlice,run_underlying hu,h1,Instr.fill]
    ·have h16:¬16777216 < css.length*s:=by omega
     simp[go_sem,Instr.buildSlice,run_underlying hu,h1,h2,h0,h16]
     unfold Value.cells at hf
     rw[hf]
     simp[go_sem]
end
section
open Go.RowKit Sha
open Fld (Itm)
@[irreducible] def loadOp (t:TypeId) (v:Value):Sem Next:=do pure (.value (<-Instr.loadAt t v))
@[irreducible] def buildOp (t:TypeId) (len:Nat) (parts:Array (Nat×Value)):Sem Next:=do pure (.value (<-Instr.buildSlice t len parts))
theorem execOp_loadItem (ρ:Operand->Value)(dst:Option Tmp)(x:Operand)(ty:TypeId)(pos:String)(after:Array Edge)(guard:Option (Nat×Bool)):
 execOp ρ {dst:=dst,op:=.load 83 x,type:=ty,pos:=pos,after:=after,guard:=guard}= loadOp 83 (ρ x):=by unfold loadOp;rfl
theorem execOp_buildItems (ρ:Operand->Value)(dst:Option Tmp)(len:Nat)(parts:Array (Nat×Operand))(ty:TypeId)(pos:String)(after:Array Edge)(guard:Option (Nat×Bool)):
 execOp ρ {dst:=dst,op:=.buildSlice 81 len parts,type:=ty,pos:=pos,after:=after,guard:=guard}= buildOp 81 len (parts.map fun(i,x)=>(i,ρ x)):=by unfold buildOp;rfl
theorem execOp_loadId (ρ:Operand->Value)(dst:Option Tmp)(x:Operand)(ty:TypeId)(pos:String)(after:Array Edge)(guard:Option (Nat×Bool)):
 execOp ρ {dst:=dst,op:=.load 25 x,type:=ty,pos:=pos,after:=after,guard:=guard}= loadOp 25 (ρ x):=by unfold loadOp;rfl
theorem run_loadOp {P:Program} {t:TypeId} {v u:Value} {w:World}(h:(Instr.loadAt t v).run P w= .ok u w):(loadOp t v).run P w= .ok (.value u) w:=by
 unfold loadOp;simp only[Sem.run_bind,h,Result.andThen_ok,Sem.run_pure]
theorem run_buildOp {P:Program} {t:TypeId} {len:Nat} {parts:Array (Nat×Value)} {u:Value} {w w':World}(h:(Instr.buildSlice t len parts).run P w= .ok u w'):(buildOp t len parts).run P w= .ok (.value u) w':=by
 unfold buildOp;simp only[Sem.run_bind,h,Result.andThen_ok,Sem.run_pure]
theorem load_item {w:World} {g:Nat} {x:Itm} {q:Option Addr} {c:Nat}(hx:x.ok)(h:Blk w g (icells x q c) 83):(loadOp 83 (.pointer (some ⟨g,0,none⟩))).run Tryz.prog w= .ok (.value (.agg (icells x q c).toArray)) w:=
 run_loadOp (run_loadAt_mid w g 0 83 _ _ h.range Tryz.underlying83 rfl (by rw[item_size,icells_length hx]))
theorem item_all:(Tryz.prog.info? 83).map (fun i=>(i.zero,i.size))=some (some (.agg (icells ⟨0,[],Fld.zero32⟩ none 0).toArray),34):=by unfold icells;kernel_rfl
theorem item_all3:(Tryz.prog.info? 83).map (fun i=>(i.zero,i.size,i.bytes))=some (some (.agg (icells ⟨0,[],Fld.zero32⟩ none 0).toArray),34,64):=by unfold icells;kernel_rfl
theorem build_item (w:World) {x:Itm} {q:Option Addr} {c:Nat}(hx:x.ok):(buildOp 81 1 #[(0,.agg (icells x q c).toArray)]).run Tryz.prog w= .ok (.value (.slice (some ⟨w.heap.size,0,none⟩) 1 1)) (w.alloc (.cells (icells x q c).toArray 83)):=by
 have:=run_build_items (P:=Tryz.prog) w 81 83 34 _ (by omega) Tryz.underlying81 item_all [icells x q c] (by intro c hc;simp at hc;subst hc;exact icells_length hx _ _) (by simp)
 exact run_buildOp (by simpa using this)
theorem load_id {w:World} {g o:Nat} {x:Itm} {q:Option Addr} {c:Nat}(hx:x.ok)(h:w.rangeAt g o (icells x q c)):(loadOp 25 (.pointer (some ⟨g,o+2,none⟩))).run Tryz.prog w= .ok (.value (.agg (x.D.map v8).toArray)) w:=
 run_loadOp (run_loadAt_mid w g (o+2) 25 _ _ (rangeAt_id h) Tryz.underlying25 rfl (by rw[id_size,List.length_map,hx.len]))
theorem load_at {w:World} {g o:Nat} {x:Itm} {q:Option Addr} {c:Nat}(hx:x.ok)(h:w.rangeAt g o (icells x q c)):(loadOp 83 (.pointer (some ⟨g,o,none⟩))).run Tryz.prog w= .ok (.value (.agg (icells x q c).toArray)) w:=
 run_loadOp (run_loadAt_mid w g o 83 _ _ h Tryz.underlying83 rfl (by rw[item_size,icells_length hx]))
end
end Go.Proofs.YtokpabkcaofahaaGreat
